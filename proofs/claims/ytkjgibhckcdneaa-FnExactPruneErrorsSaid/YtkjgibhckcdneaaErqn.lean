/- spec.PruneErrors returns the errors that are in the walk of an error, numbered anew. -/
import Derived.Test.YtkjgibhckcdneaaErqm
import Derived.Test.YtkjgibhckcdneaaErwg
namespace Go.Proofs.Ytkjgibhckcdneaa.ErQ
set_option linter.unusedVariables false
set_option linter.unusedSimpArgs false
open Go.ChangeShapes Go.WideShapes Go.ChangeAt Go.RowKit
open Mem IntsP ErP ErM ErT ErA ErU ErD ErW ErL ErF

/-- The new numbers of the errors before i. -/
def numA (a : List Int) (n i : Nat) : List Int := (List.range n).map (fun j => if j < i then (rkE a j : Int) else 0)
theorem numA_len (a : List Int) (n i : Nat) : (numA a n i).length = n := by simp [numA]
theorem numA_at {a : List Int} {n i j : Nat} (hj : j < n) : getI (numA a n i) j = if j < i then (rkE a j : Int) else 0 := by
  unfold getI numA; rw [List.getElem?_map, List.getElem?_range hj]; rfl
theorem numA_zero (a : List Int) (n : Nat) : numA a n 0 = List.replicate n 0 := by
  unfold numA
  apply List.ext_getElem?
  intro j
  by_cases hj : j < n
  · simp [hj]
  · simp [hj]
theorem numA_next {a : List Int} {n i : Nat} (hi : i < n) : (numA a n i).set i (rkE a i : Int) = numA a n (i + 1) := by
  apply List.ext_getElem?
  intro j
  by_cases hij : i = j
  · subst hij
    rw [List.getElem?_set_self (by rw [numA_len]; exact hi)]
    unfold numA
    rw [List.getElem?_map, List.getElem?_range hi]
    simp
  · rw [List.getElem?_set_ne hij]
    unfold numA
    rw [List.getElem?_map, List.getElem?_map]
    by_cases hj : j < n
    · rw [List.getElem?_range hj]
      simp only [Option.map_some, Option.some.injEq]
      by_cases h1 : j < i
      · rw [if_pos h1, if_pos (by omega)]
      · rw [if_neg h1, if_neg (by omega)]
    · rw [List.getElem?_eq_none (by simpa using hj)]
      rfl
theorem rk_zero (a : List Int) : rkE a 0 = 0 := rfl
set_option maxRecDepth 100000 in
set_option maxHeartbeats 8000000 in
theorem pruS_any (lo n c : Nat) (A : Option Addr) (p : Er) (x : Int) (hn : n ≤ 2000000) (hl : p.length = n) (hsm : SmallE p 2000000) (w : World) (ho : OwnE w lo (.slice A n c) p) :
    Calls Try.prog 41 #[.agg #[.slice A n c], .int .i64 x] w (ErrR (pruneR p x) w) := by
  have hF := Lib.hid (fun w hr hB => l6One_any w.heap.size A n c p x (by omega) hl (hsm.mono (by omega)) w hr hB)
  have b4 : ∀ o o' o2 o3 : Obj, Below w.heap.size w ((((w.alloc o).alloc o').alloc o2).alloc o3) := fun o o' o2 o3 => ((((Below.refl _ _).alloc (Nat.le_refl _) _).alloc (by simp) _).alloc (by simp; omega) _).alloc (by simp; omega) _
  have B4 := Lib.hid b4
  have hO := Lib.hid ho
  have hL := Lib.hid hl
  have hRd := Lib.hid ho.rd
  clear ho hl b4
  cases hfn : oneE p x with
  | false =>
    have hs := Lib.hid (show pruneR p x = ([], false) by unfold pruneR; rw [hfn]; rfl)
    rw [hfn] at hF
    clear hfn
    go_enter Try.func41, Try.ntmps41
    go_wp2_with fail
    refine (hF.out _ (hO.out.below (B4.out _ _ _ _)).rd (Nat.le_refl _)).mono ?_
    rintro e w1 ⟨rfl, b⟩
    have bb := Lib.hid ((B4.out (.cells #[.slice A n c] 29) (.cells #[.slice none 0 0] 29) (.cells #[] 55) (.cells #[.slice (some ⟨w.heap.size + 1 + 1, 0, none⟩) 0 0] 29)).trans (b.mono (by simp; omega)))
    have x1 : Blk w1 (w.heap.size + 1) 29 #[.slice none 0 0] := Blk.below (heap4_1 w _ _ _ _) b (by simp <;> omega)
    have y1 : w1.cell? ⟨w.heap.size + 1, 0, none⟩ = some (.slice none 0 0) := x1.cells 0
    have f1 : w1.frozen? ⟨w.heap.size + 1, 0, none⟩ = false := x1.frozen 0
    clear b x1
    go_wp2_with fail
    refine bodyPost_ret (v := .tuple #[.agg #[.slice none 0 0], .bool false]) (by simp [results, Try.results41, go_sem, y1]) rfl ?_
    rw [hs.out]
    exact ⟨none, 0, rfl, OwnE.nil _ _, bb.out.setCell (p := ⟨w.heap.size + 1, 0, none⟩) (by show w.heap.size ≤ w.heap.size + 1; omega) _⟩
  | true =>
    obtain ⟨x0, sx, rfl, hxn, hxx, hok, hn12⟩ := oneE_at hfn
    have hs := Lib.hid (show pruneR p x0 = (prunedE p (waysE p x0) n, true) by unfold pruneR; rw [hfn, Int.toNat_natCast, hL.out]; rfl)
    rw [hL.out] at hxn hn12
    have HOK := Lib.hid hok
    have hW := Lib.hid (fun W (hr : RdE W W.heap.size A p) => in_any n c A p x0 hL.out hok hxn W hr)
    rw [hfn] at hF
    obtain ⟨i0, hi, hz0, hz1, hz2⟩ := info_parts info3
    obtain ⟨i5, hi5, hy0, hy1, hy2⟩ := info_parts infoNode
    have hmk := fun W => run_make_rowN (P := Try.prog) 33 3 i0 _ Try.underlying33 hi hz0 .i64 .i64 n n (Nat.le_refl _) (by rw [hz2]; omega) (by omega) W
    have hmk1 := hmk
    rw [hz1] at hmk1
    clear hfn hxx hok hsm hmk
    go_enter Try.func41, Try.ntmps41
    go_wp2_with fail
    refine (hF.out _ (hO.out.below (B4.out _ _ _ _)).rd (Nat.le_refl _)).mono ?_
    rintro e w1 ⟨rfl, b⟩
    have bb := Lib.hid ((B4.out (.cells #[.slice A n c] 29) (.cells #[.slice none 0 0] 29) (.cells #[] 55) (.cells #[.slice (some ⟨w.heap.size + 1 + 1, 0, none⟩) 0 0] 29)).trans (b.mono (by simp; omega)))
    have x1 : Blk w1 (w.heap.size + 1) 29 #[.slice none 0 0] := Blk.below (heap4_1 w _ _ _ _) b (by simp <;> omega)
    have x0b : Blk w1 w.heap.size 29 #[.slice A n c] := Blk.below (heap4_0 w _ _ _ _) b (by simp; omega)
    have xm : Blk w1 (w.heap.size + 1 + 1 + 1) 29 #[.slice (some ⟨w.heap.size + 1 + 1, 0, none⟩) 0 0] := Blk.below (heap4_3 w _ _ _ _) b (by simp)
    have xh : w1.heap[w.heap.size + 1 + 1]? = some (.cells #[] 55) := (b.block _ (by simp)).trans (heap4_2 w _ _ _ _)
    obtain ⟨h0, hh0⟩ : ∃ h0, w.heap.size + 1 + 1 = h0 := ⟨_, rfl⟩
    obtain ⟨bm, hbm⟩ : ∃ bm, w.heap.size + 1 + 1 + 1 = bm := ⟨_, rfl⟩
    have l1 : w.heap.size + 1 < h0 := by omega
    have l2 : h0 < bm := by omega
    have l3 : bm < w1.heap.size := by rw [← hbm]; exact xm.lt
    have zr : w1.cell? ⟨w.heap.size, 0, none⟩ = some (.slice A n c) := x0b.cells 0
    have XM : Hid (Blk w1 bm 29 #[.slice (some ⟨h0, 0, none⟩) 0 0]) := Lib.hid (by rw [← hbm, ← hh0]; exact xm)
    have XH : Hid (w1.heap[h0]? = some (.cells #[] 55)) := Lib.hid (by rw [← hh0]; exact xh)
    have X1 := Lib.hid x1
    have X0 := Lib.hid x0b
    have R1 := Lib.hid (hRd.out.below bb.out)
    simp only [hbm]
    simp only [hh0]
    clear b x1 x0b xm xh hbm hh0 hF
    go_wp2_with fail
    have S0 : (fun V : World => V.cell? ⟨w.heap.size, 0, none⟩ = some (.slice A n c)) w1.drew := zr
    refine Last2.region_last [8] (fun V : World => V.cell? ⟨w.heap.size, 0, none⟩ = some (.slice A n c)) (by kernel_rfl) ?_
    refine Last2.last_take (i := 0) (d := some 20) (v := .agg #[.slice A n c]) rfl rfl (by kernel_rfl) (by kernel_rfl) (by kernel_rfl) (fun _ _ _ h => h) rfl (by kernel_rfl) (by kernel_rfl) rfl ?_ S0 ?_
    · (intro V hV; (try dsimp only at hV); go_simp; try with_reducible rfl)
    simp only [Act.put, List.setIfInBounds_toArray, List.set_cons_zero, List.set_cons_succ]
    refine Last2.last_take (i := 1) (d := some 21) (v := .int .i64 (x0 : Int)) rfl rfl (by kernel_rfl) (by kernel_rfl) (by kernel_rfl) (fun _ _ _ h => h) rfl (by kernel_rfl) (by kernel_rfl) rfl ?_ S0 ?_
    · (intro V hV; (try dsimp only at hV); go_simp; try with_reducible rfl)
    simp only [Act.put, List.setIfInBounds_toArray, List.set_cons_zero, List.set_cons_succ]
    refine Last2.last_take (i := 3) (d := some 23) (v := .pointer (some ⟨w.heap.size, 0, none⟩)) rfl rfl (by kernel_rfl) (by kernel_rfl) (by kernel_rfl) (fun _ _ _ h => h) rfl (by kernel_rfl) (by kernel_rfl) rfl ?_ S0 ?_
    · (intro V hV; (try dsimp only at hV); go_simp; try with_reducible rfl)
    simp only [Act.put, List.setIfInBounds_toArray, List.set_cons_zero, List.set_cons_succ]
    refine Last2.last_take (i := 4) (d := some 24) (v := .slice A n c) rfl rfl (by kernel_rfl) (by kernel_rfl) (by kernel_rfl) (fun _ _ _ h => h) rfl (by kernel_rfl) (by kernel_rfl) rfl ?_ S0 ?_
    · (intro V hV; (try dsimp only at hV); go_simp; try with_reducible rfl)
    simp only [Act.put, List.setIfInBounds_toArray, List.set_cons_zero, List.set_cons_succ]
    refine Last2.last_take (i := 5) (d := some 25) (v := .int .i64 (n : Int)) rfl rfl (by kernel_rfl) (by kernel_rfl) (by kernel_rfl) (fun _ _ _ h => h) rfl (by kernel_rfl) (by kernel_rfl) rfl ?_ S0 ?_
    · (intro V hV; (try dsimp only at hV); go_simp; try with_reducible rfl)
    simp only [Act.put, List.setIfInBounds_toArray, List.set_cons_zero, List.set_cons_succ]
    have hU : Below w1.heap.size w1 w1.drew := (Below.refl _ _).drew
    have HU := Lib.hid hU
    have XD := Lib.hid (X0.out.below hU X0.out.lt)
    have RU := Lib.hid (show RdE w1.drew w1.drew.heap.size A p from ((R1.out.keep (fun _ _ => rfl)).more (by show w.heap.size ≤ w1.heap.size; omega)))
    clear hU S0 zr
    have hsU : w1.heap.size ≤ w1.drew.heap.size := Nat.le_refl _
    generalize w1.drew = U at *
    refine Last2.last_two (i := 2) (j := 6) (oi := { dst := some 22, op := .call { callee := .value (.func 57), args := #[.tmp 20, .tmp 21], argTypes := _ }, type := _, pos := _, after := _, guard := none }) (oj := { dst := some 26, op := .makeSlice 33 (.tmp 25) (.tmp 25), type := _, pos := _, after := _, guard := none }) (by kernel_rfl) rfl rfl rfl rfl (fun K hK => ?_) (fun K hK => ?_)
    · go_simp
      refine (hW.out _ RU.out).mono ?_
      rintro e V1 ⟨g1, rfl, hg1, hg2, hA1, bV1⟩
      have S1 : (fun V : World => V.cell? ⟨w.heap.size, 0, none⟩ = some (.slice A n c)) V1 := (XD.out.below bV1 XD.out.lt).cells 0
      refine hK.out _ _ (fun _ => S1) ?_
      clear hK K
      try simp only [Act.put, List.setIfInBounds_toArray, List.set_cons_zero, List.set_cons_succ]
      refine Last2.last_take (i := 7) (d := some 7) (v := .slice (some ⟨g1, 0, none⟩) n n) rfl rfl (by kernel_rfl) (by kernel_rfl) (by kernel_rfl) (fun _ _ _ h => h) rfl (by kernel_rfl) (by kernel_rfl) rfl ?_ S1 ?_
      · (intro V hV; (try dsimp only at hV); go_simp; try with_reducible rfl)
      simp only [Act.put, List.setIfInBounds_toArray, List.set_cons_zero, List.set_cons_succ]
      refine Last2.last_one (i := 6) (o := { dst := some 26, op := .makeSlice 33 (.tmp 25) (.tmp 25), type := _, pos := _, after := _, guard := none }) (by kernel_rfl) rfl rfl (fun K hK => ?_)
      go_simp
      obtain ⟨V2, hV2⟩ : ∃ V2, V1.alloc (.cells (madeCells #[Value.int .i64 0] n) 3) = V2 := ⟨_, rfl⟩
      have bV2 : Below V1.heap.size V1 V2 := by rw [← hV2]; exact (Below.refl _ _).alloc (Nat.le_refl _) _
      obtain ⟨g2, hg3⟩ : ∃ g2, V1.heap.size = g2 := ⟨_, rfl⟩
      have hA2 : Arr V2 g2 n (numA (waysE p x0) n 0) := by rw [← hV2, ← hg3, numA_zero]; exact Arr.new (by omega)
      rw [hV2, hg3]
      refine hK.out _ _ (fun _ => (XD.out.below (bV1.trans (bV2.mono bV1.size)) XD.out.lt).cells 0) ?_
      clear hK K
      try simp only [Act.put, List.setIfInBounds_toArray, List.set_cons_zero, List.set_cons_succ]
      have hA1' : ArrB V2 g1 n (waysE p x0) := hA1.chg (Chg.of_below (C := fun _ => False) bV2) (fun h => h)
      have bUV : Below U.heap.size U V2 := bV1.trans (bV2.mono bV1.size)
      have lg1 : U.heap.size ≤ g1 := hg1
      have lg2 : U.heap.size ≤ g2 := by rw [← hg3]; exact bV1.size
      have lgg : g1 ≠ g2 := by omega
      have lV1 : g1 < V2.heap.size := by have := bV2.size; omega
      have lV2 : g2 < V2.heap.size := by rw [← hV2, ← hg3]; simp
      clear hV2 hg3 hA1 hg1 hg2 S1 bV1 bV2
      refine Last2.last_one (i := 8) (o := { dst := some 8, op := .assign (.tmp 26), type := _, pos := _, after := _, guard := none }) (by kernel_rfl) rfl rfl (fun K hK => ?_)
      go_simp
      refine hK.out _ _ (fun h => (h (by decide)).elim) ?_
      clear hK K
      try simp only [Act.put, List.setIfInBounds_toArray, List.set_cons_zero, List.set_cons_succ]
      refine Last2.last_done (by kernel_rfl) ?_ _
      have bw1 : Below w1.heap.size w1 V2 := HU.out.trans (bUV.mono hsU)
      have bb2 := Lib.hid (bb.out.trans (bw1.mono bb.out.size))
      have Y1 := Lib.hid (X1.out.below bw1 X1.out.lt)
      have YE := Lib.hid (X0.out.below bw1 X0.out.lt)
      have YM := Lib.hid (XM.out.below bw1 XM.out.lt)
      have YH := Lib.hid (show V2.heap[h0]? = some (.cells #[] 55) from (bw1.block h0 (by omega)).trans XH.out)
      have R2 := Lib.hid (hRd.out.below bb2.out)
      have HA1 := Lib.hid hA1'
      have HA2 := Lib.hid hA2
      have hal := ways_len p x0
      rw [hL.out] at hal
      have HAL := Lib.hid hal
      have HWP := Lib.hid (fun (i j : Nat) (s : En) (z : Int) (h1 : p[i]? = some s) (h2 : s.2.2[j]? = some z) (h3 : 0 < getI (waysE p x0) i) => ways_part HOK.out (by rw [hL.out]; exact hxn) h1 h2 h3)
      have zb2 : V2.cell? ⟨w.heap.size, 0, none⟩ = some (.slice A n c) := YE.out.cells 0
      have lga : bm < g1 := by omega
      have lgb : bm < g2 := by omega
      clear bw1 X1 X0 XM XH hA1' hA2 hal XD RU bUV HU hW bb lg1 lg2 zb2
      generalize waysE p x0 = a at *
      go_wp2_with fail
      go_loopw [9] (fun i' wr => ∃ i : Nat, i ≤ n ∧ i' = .int .i64 i ∧ Arr wr g2 n (numA a n i) ∧ Chg (fun b => b = g2) V2 wr) (fun i' _ => n - (intOf i').toNat)
      case atStart => exact ⟨0, Nat.zero_le _, rfl, HA2.out, Chg.refl _ _⟩
      case round =>
        obtain ⟨i, hin, rfl, hA, hch⟩ := hrel
        have HA := Lib.hid hA
        have HC := Lib.hid hch
        have HB1 := Lib.hid (HA1.out.chg hch (fun h => lgg h))
        clear hA hch
        by_cases hlt : i < n
        · rcases Nat.eq_zero_or_pos i with h0' | h0'
          · subst h0'
            have hN : Hid (numA a n 1 = numA a n 0) := Lib.hid (by
              have h1 := set_getI (numA a n 0) 0
              rw [numA_at hlt, if_neg (by omega)] at h1
              rw [← h1, ← numA_next hlt, rk_zero]; rfl)
            go_wp2_with fail
            go_roundw
            case rel => exact ⟨1, by omega, by go_num, by rw [hN.out]; exact HA.out, HC.out⟩
            case measure => simp [intOf] <;> omega
          · obtain ⟨i', rfl⟩ : ∃ i', i = i' + 1 := ⟨i - 1, by omega⟩
            have hi' : i' < n := by omega
            obtain ⟨e1, e2⟩ := HA.out.at hi'
            rw [numA_at hi', if_pos (by omega)] at e1
            obtain ⟨e3, e4⟩ := HA.out.at hlt
            obtain ⟨f1, f2⟩ := HB1.out.at hi'
            have hnum := Lib.hid (numA_next (a := a) hlt)
            have hrkb := rk_le a i'
            by_cases hkp : 0 < getI a i'
            · rw [decide_eq_true hkp] at f1
              have hrk := Lib.hid (rk_yes hkp)
              have hne : g1 ≠ g2 := lgg
              clear hkp
              obtain ⟨r, hr⟩ : ∃ r, rkE a i' = r := ⟨_, rfl⟩
              have HR := Lib.hid hr
              rw [hr] at e1 hrkb
              generalize getI (numA a n (i' + 1)) (i' + 1) = zz at *
              clear hr
              have fs1 : ∀ v, (World.setCell wr ⟨g2, i' + 1, none⟩ v).cell? ⟨g1, i', none⟩ = some (.bool true) := fun v => (World.cell?_setCell_other _ _ _ _ (by intro e; exact hne (congrArg Addr.block e).symm)).trans f1
              go_wp2_with fail
              go_roundw
              case rel =>
                refine ⟨i' + 1 + 1, by omega, by go_num, ?_, (HC.out.put ⟨g2, i' + 1, none⟩ _ (.inr rfl)).put ⟨g2, i' + 1, none⟩ _ (.inr rfl)⟩
                have h1 := (HA.out.set (i' + 1) (r : Int)).set (i' + 1) ((r : Int) + 1)
                rw [List.set_set, show ((r : Int) + 1) = (rkE a (i' + 1) : Int) by rw [hrk.out, HR.out]; rfl, hnum.out] at h1
                have e : (rkE a (i' + 1) : Int) = (r : Int) + 1 := by rw [hrk.out, HR.out]; rfl
                first
                  | exact h1
                  | (rw [e] at h1; exact h1)
              case measure => simp [intOf] <;> omega
            · rw [decide_eq_false hkp] at f1
              have hrk := Lib.hid (rk_no hkp)
              have hne : g1 ≠ g2 := lgg
              clear hkp
              obtain ⟨r, hr⟩ : ∃ r, rkE a i' = r := ⟨_, rfl⟩
              have HR := Lib.hid hr
              rw [hr] at e1 hrkb
              generalize getI (numA a n (i' + 1)) (i' + 1) = zz at *
              clear hr
              have fs1 : ∀ v, (World.setCell wr ⟨g2, i' + 1, none⟩ v).cell? ⟨g1, i', none⟩ = some (.bool false) := fun v => (World.cell?_setCell_other _ _ _ _ (by intro e; exact hne (congrArg Addr.block e).symm)).trans f1
              go_wp2_with fail
              go_roundw
              case rel =>
                refine ⟨i' + 1 + 1, by omega, by go_num, ?_, HC.out.put ⟨g2, i' + 1, none⟩ _ (.inr rfl)⟩
                have h1 := HA.out.set (i' + 1) (r : Int)
                rw [show (r : Int) = (rkE a (i' + 1) : Int) by rw [hrk.out, HR.out], hnum.out] at h1
                have e : (rkE a (i' + 1) : Int) = (r : Int) := by rw [hrk.out, HR.out]
                first
                  | exact h1
                  | (rw [e] at h1; exact h1)
              case measure => simp [intOf] <;> omega
        · obtain rfl : n = i := by omega
          have WM := Lib.hid (YM.out.chg HC.out (by omega))
          have WH := Lib.hid (show wr.heap[h0]? = some (.cells #[] 55) from (HC.out.block h0 (by omega) (by omega)).trans YH.out)
          have W1 := Lib.hid (Y1.out.chg HC.out (by omega))
          have WE := Lib.hid (YE.out.chg HC.out (by omega))
          have WR := Lib.hid (rdE_chg R2.out HC.out (by omega) (fun b hb => by omega))
          have bb3 := Lib.hid (bb2.out.trans (HC.out.below bb2.out.size (fun b hb h => by omega)))
          have szw := HC.out.size
          have HFs := Lib.hid (Fs.nil (lo := h0) WH.out (Nat.le_refl _) WM.out)
          clear HC R2 YE Y1 YM YH WH WM
          go_wp2_with fail
          obtain ⟨wo, rfl⟩ : ∃ wo, wo = wr := ⟨_, rfl⟩
          have l5 : bm < wo.heap.size := by omega
          have lge : g1 < wo.heap.size := by omega
          have lgf : g2 < wo.heap.size := by omega
          go_loopw [10] (fun i' wr => ∃ (i m : Nat) (Av : Option Addr) (cv : Nat), i ≤ n ∧ i' = .int .i64 i ∧ m ≤ i ∧ Hid (rkE a i = m) ∧ Fs wo h0 h0 bm (.slice Av m cv) (prunedE p a i) wr) (fun i' _ => n - (intOf i').toNat)
          case atStart => exact ⟨0, 0, _, _, Nat.zero_le _, rfl, Nat.le_refl _, Lib.hid rfl, HFs.out⟩
          case round =>
            obtain ⟨i, m, Av, cv, hin, rfl, hmi, HM, hG⟩ := hrel
            have G := Lib.hid hG
            have szr := hG.chg.size
            have B1 := Lib.hid (HB1.out.chg hG.chg (by omega))
            have A2 := Lib.hid (HA.out.chg hG.chg (by omega))
            have XE := Lib.hid (WE.out.chg hG.chg (by omega))
            have zr : wr.cell? ⟨w.heap.size, 0, none⟩ = some (.slice A n c) := XE.out.cells 0
            have zm : wr.cell? ⟨bm, 0, none⟩ = some (.slice Av m cv) := hG.box.cells 0
            have RR := Lib.hid (rdE_chg WR.out hG.chg (by omega) (fun b hb => by omega))
            clear hG
            by_cases hlt : i < n
            · obtain ⟨f1, f2⟩ := B1.out.at hlt
              by_cases hkp : 0 < getI a i
              case neg =>
                rw [decide_eq_false hkp] at f1
                have hN := Lib.hid (pruned_no (e := p) hkp)
                have hM := Lib.hid (rk_no hkp)
                clear hkp
                go_wp2_with fail
                go_roundw
                case rel => first | exact ⟨i + 1, m, Av, cv, by omega, by go_num, by omega, Lib.hid (by rw [hM.out, HM.out]), by rw [hN.out]; exact G.out⟩ | exact ⟨i + 1, by omega, by go_num, m, by omega, Lib.hid (by rw [hM.out, HM.out]), Av, cv, by rw [hN.out]; exact G.out⟩
                case measure => simp [intOf]; omega
              case pos =>
              obtain ⟨⟨t0, t1, t2⟩, hsx⟩ : ∃ s, p[i]? = some s := ⟨_, List.getElem?_eq_getElem (by rw [hL.out]; exact hlt)⟩
              rw [decide_eq_true hkp] at f1
              have hN := Lib.hid (pruned_yes hsx hkp)
              have hM := Lib.hid (rk_yes hkp)
              obtain ⟨ad, Ai, ci, hAd, hab, c0, c1, c2, c3⟩ := RR.out i _ hsx
              have C3 := Lib.hid c3
              have HWi := Lib.hid (fun (q : Nat) (z : Int) (hz : t2[q]? = some z) => (show ∃ r : Nat, z = r ∧ r < n by
                obtain ⟨r, rfl, h1, h2⟩ := ok_part (s := (t0, t1, t2)) HOK.out hsx hz
                exact ⟨r, rfl, by rw [← hL.out]; exact h2⟩))
              have h12 : t2.length ≤ 12 := ok_many HOK.out hsx
              have hql : (prunedE p a i).length = m := by rw [pruned_len, HM.out]
              have HQL := Lib.hid hql
              obtain ⟨ml, hml⟩ : ∃ ml, t2.length = ml := ⟨_, rfl⟩
              have HML := Lib.hid hml
              rw [hAd] at zr XE
              dsimp only at c0 c1 c2
              rw [hml] at c2 h12
              have hSB : ∀ V, Below wr.heap.size wr V → (fun V : World => V.cell? ⟨bm, 0, none⟩ = some (.slice Av m cv) ∧ V.cell? ⟨w.heap.size, 0, none⟩ = some (.slice (some ad) n c) ∧ V.cell? (ad.add (i * 3)) = some (.int .i64 t0) ∧ V.cell? ⟨(ad.add (i * 3)).block, (ad.add (i * 3)).off + 1, none⟩ = some (.int .i64 t1) ∧ V.cell? ⟨(ad.add (i * 3)).block, (ad.add (i * 3)).off + 2, none⟩ = some (.slice Ai ml ci)) V := fun V b => ⟨(G.out.box.below b G.out.box.lt).cells 0, (b.cell (p := ⟨w.heap.size, 0, none⟩) (by show w.heap.size < wr.heap.size; omega)).trans zr, (b.cell (by rw [block_of_add]; show ad.block < wr.heap.size; omega)).trans c0, (b.cell (by show (ad.add _).block < wr.heap.size; rw [block_of_add]; omega)).trans c1, (b.cell (by show (ad.add _).block < wr.heap.size; rw [block_of_add]; omega)).trans c2⟩
              have HSB := Lib.hid hSB
              clear hsx hkp c0 c1 c2 c3 hql hSB hml B1
              go_wp2_with fail
              obtain ⟨W, hW⟩ : ∃ W, wr.alloc (.cells #[] 3) = W := ⟨_, rfl⟩
              obtain ⟨he, hhe⟩ : ∃ he, wr.heap.size = he := ⟨_, rfl⟩
              have bW : Below wr.heap.size wr W := by rw [← hW]; exact (Below.refl _ _).alloc (Nat.le_refl _) _
              have eW : W.heap[he]? = some (.cells #[] 3) := by rw [← hW, ← hhe]; exact heap1_0 _ _
              have RW := Lib.hid (C3.out.below (bW.mono (by omega)))
              have A2W := Lib.hid (A2.out.chg (Chg.of_below (C := fun _ => False) bW) (fun h => h))
              have SW := Lib.hid (HSB.out W bW)
              have hgr : Grow W he he (.slice (some ⟨he, 0, none⟩) 0 0) ((t2.map (newE a)).take 0) W := ⟨App.empty_own eW (by omega), fun b hb => .inl (by simpa [Value.ownBlock] using hb.symm), Chg.refl _ _⟩
              have HGR := Lib.hid hgr
              have BW := Lib.hid bW
              have lW : he < W.heap.size := (Array.getElem?_eq_some_iff.1 eW).1
              rw [hW, hhe]
              rw [hhe] at szr BW
              have hhe' := Lib.hid hhe
              clear hW hgr bW eW zr zm RR C3 A2 XE f1 f2 hhe
              obtain ⟨wq, rfl⟩ : ∃ wq, wq = wr := ⟨_, rfl⟩
              go_loopw [11, 12] (fun v i' wi => ∃ (q : Nat) (Ag : Option Addr) (cg : Nat), q ≤ ml ∧ i' = .int .i64 q ∧ v = .slice Ag q cg ∧ Grow W he he (.slice Ag q cg) ((t2.map (newE a)).take q) wi) (fun _ i' _ => ml - (intOf i').toNat)
              case atStart => exact ⟨0, _, _, Nat.zero_le _, rfl, rfl, HGR.out⟩
              case round =>
                obtain ⟨q, Ag, cg, hq, rfl, rfl, hG2⟩ := hrel
                have GI := Lib.hid hG2
                have swr := hG2.chg.size
                have hbi : Below wq.heap.size wq wr := by rw [hhe'.out]; exact BW.out.trans (hG2.chg.below (by omega) (fun b hb h => by omega))
                have HBI := Lib.hid hbi
                obtain ⟨zm, zr, c0, c1, c2⟩ := HSB.out wr hbi
                have RI := Lib.hid (rdI_chg RW.out hG2.chg (by omega) (fun b hb => by omega))
                have A2i := Lib.hid (A2W.out.chg hG2.chg (by omega))
                clear hG2 hbi
                by_cases hql : q < ml
                · obtain ⟨z, hz⟩ : ∃ z, t2[q]? = some z := ⟨_, List.getElem?_eq_getElem (by rw [HML.out]; exact hql)⟩
                  obtain ⟨r, rfl, hrn⟩ := HWi.out q z hz
                  obtain ⟨aq, haq, _, d0⟩ := RI.out q _ hz
                  obtain ⟨e1, _⟩ := A2i.out.at hrn
                  rw [numA_at hrn, if_pos hrn] at e1
                  have hN2 : (t2.map (newE a)).take (q + 1) = (t2.map (newE a)).take q ++ [(rkE a r : Int)] := by rw [List.take_add_one, List.getElem?_map, hz]; rfl
                  have hlq : ((t2.map (newE a)).take q).length = q := by rw [List.length_take, List.length_map, HML.out, Nat.min_eq_left (by omega)]
                  have hown : wr.ownsRow he 3 1 (.slice Ag q cg) q (cellsI ((t2.map (newE a)).take q)) := by have := GI.out.own; rwa [hlq] at this
                  obtain ⟨rr, hrr⟩ : ∃ rr : Int, (rkE a r : Int) = rr := ⟨_, rfl⟩
                  rw [hrr] at e1 hN2
                  have HN2 := Lib.hid hN2
                  have HOW := Lib.hid hown
                  have HLQ := Lib.hid hlq
                  rw [haq] at c2
                  clear hz hN2 hown hlq haq hrr
                  go_wp2_with (at_builtin; refine App.row_list _ rfl (.tmp 77) (.tmp 90) 33 rfl he 0 3 i0 _ 1 8 Try.underlying33 hi hz0 hz1 hz2 rfl (by decide) (.slice Ag q cg) q (cellsI ((t2.map (newE a)).take q)) rfl (own_alloc HOW.out _) (.slice (some ⟨wr.heap.size, 0, none⟩) 1 1) 1 [.int .i64 rr] rfl (App.one_own (heap1_0 wr _)) (by intro u hu; simp at hu; rw [hu]; rfl) (by unfold maxLen; omega) (by omega) (by simp; omega) ?_)
                  intro v1 w5 o1 g1' t1'
                  have hp := GI.out.push (z := rr) (v' := v1) (w' := w5) (.cells #[.int .i64 rr] 3) rfl (by rw [HLQ.out]; exact o1) g1' (by simpa using t1')
                  rw [← HN2.out] at hp
                  have HP := Lib.hid hp
                  obtain ⟨A1, c1', rfl⟩ := own_slice o1
                  clear o1 g1' t1' hp
                  go_wp2_with fail
                  go_roundw
                  case rel => exact ⟨q + 1, _, _, by omega, by go_num, rfl, HP.out⟩
                  case measure => simp [intOf]; omega
                · obtain rfl : ml = q := by omega
                  have hfull : (t2.map (newE a)).take ml = t2.map (newE a) := List.take_of_length_le (by rw [List.length_map, HML.out]; exact Nat.le_refl _)
                  have hlq : (t2.map (newE a)).length = ml := by rw [List.length_map, HML.out]
                  have hown : wr.ownsRow he 3 1 (.slice Ag ml cg) ml (cellsI (t2.map (newE a))) := by have := GI.out.own; rwa [hfull, hlq] at this
                  have HOW := Lib.hid hown
                  clear hfull hlq hown
                  go_wp2_with fail
                  have hbU : Below wq.heap.size wq wr.drew := HBI.out.trans ((Below.refl _ _).drew)
                  have S0 : (fun V : World => V.cell? ⟨bm, 0, none⟩ = some (.slice Av m cv) ∧ V.cell? ⟨w.heap.size, 0, none⟩ = some (.slice (some ad) n c) ∧ V.cell? (ad.add (i * 3)) = some (.int .i64 t0) ∧ V.cell? ⟨(ad.add (i * 3)).block, (ad.add (i * 3)).off + 1, none⟩ = some (.int .i64 t1) ∧ V.cell? ⟨(ad.add (i * 3)).block, (ad.add (i * 3)).off + 2, none⟩ = some (.slice Ai ml ci)) wr.drew := ⟨zm, zr, c0, c1, c2⟩
                  refine Last2.region_last [19] (fun V : World => V.cell? ⟨bm, 0, none⟩ = some (.slice Av m cv) ∧ V.cell? ⟨w.heap.size, 0, none⟩ = some (.slice (some ad) n c) ∧ V.cell? (ad.add (i * 3)) = some (.int .i64 t0) ∧ V.cell? ⟨(ad.add (i * 3)).block, (ad.add (i * 3)).off + 1, none⟩ = some (.int .i64 t1) ∧ V.cell? ⟨(ad.add (i * 3)).block, (ad.add (i * 3)).off + 2, none⟩ = some (.slice Ai ml ci)) (by kernel_rfl) ?_
                  refine Last2.last_take (i := 0) (d := some 92) (v := .pointer (some ⟨bm, 0, none⟩)) rfl rfl (by kernel_rfl) (by kernel_rfl) (by kernel_rfl) (fun _ _ _ h => h) rfl (by kernel_rfl) (by kernel_rfl) rfl ?_ S0 ?_
                  · (intro V hV; (try dsimp only at hV); go_simp; try with_reducible rfl)
                  simp only [Act.put, List.setIfInBounds_toArray, List.set_cons_zero, List.set_cons_succ]
                  refine Last2.last_take (i := 1) (d := some 93) (v := .slice Av m cv) rfl rfl (by kernel_rfl) (by kernel_rfl) (by kernel_rfl) (fun _ _ _ h => h) rfl (by kernel_rfl) (by kernel_rfl) rfl ?_ S0 ?_
                  · (intro V hV; (try dsimp only at hV); go_simp; try with_reducible rfl)
                  simp only [Act.put, List.setIfInBounds_toArray, List.set_cons_zero, List.set_cons_succ]
                  refine Last2.last_take (i := 2) (d := some 94) (v := .pointer (some ⟨w.heap.size, 0, none⟩)) rfl rfl (by kernel_rfl) (by kernel_rfl) (by kernel_rfl) (fun _ _ _ h => h) rfl (by kernel_rfl) (by kernel_rfl) rfl ?_ S0 ?_
                  · (intro V hV; (try dsimp only at hV); go_simp; try with_reducible rfl)
                  simp only [Act.put, List.setIfInBounds_toArray, List.set_cons_zero, List.set_cons_succ]
                  refine Last2.last_take (i := 3) (d := some 95) (v := .slice (some ad) n c) rfl rfl (by kernel_rfl) (by kernel_rfl) (by kernel_rfl) (fun _ _ _ h => h) rfl (by kernel_rfl) (by kernel_rfl) rfl ?_ S0 ?_
                  · (intro V hV; (try dsimp only at hV); go_simp; try with_reducible rfl)
                  simp only [Act.put, List.setIfInBounds_toArray, List.set_cons_zero, List.set_cons_succ]
                  refine Last2.last_take (i := 4) (d := some 96) (v := .int .i64 (i : Int)) rfl rfl (by kernel_rfl) (by kernel_rfl) (by kernel_rfl) (fun _ _ _ h => h) rfl (by kernel_rfl) (by kernel_rfl) rfl ?_ S0 ?_
                  · (intro V hV; (try dsimp only at hV); go_simp; try with_reducible rfl)
                  simp only [Act.put, List.setIfInBounds_toArray, List.set_cons_zero, List.set_cons_succ]
                  refine Last2.last_take (i := 5) (d := some 97) (v := .pointer (some (ad.add (i * 3)))) rfl rfl (by kernel_rfl) (by kernel_rfl) (by kernel_rfl) (fun _ _ _ h => h) rfl (by kernel_rfl) (by kernel_rfl) rfl ?_ S0 ?_
                  · (intro V hV; (try dsimp only at hV); go_simp; try with_reducible rfl)
                  simp only [Act.put, List.setIfInBounds_toArray, List.set_cons_zero, List.set_cons_succ]
                  refine Last2.last_take (i := 6) (d := some 98) (v := .pointer (some (ad.add (i * 3)))) rfl rfl (by kernel_rfl) (by kernel_rfl) (by kernel_rfl) (fun _ _ _ h => h) rfl (by kernel_rfl) (by kernel_rfl) rfl ?_ S0 ?_
                  · (intro V hV; (try dsimp only at hV); go_simp; try with_reducible rfl)
                  simp only [Act.put, List.setIfInBounds_toArray, List.set_cons_zero, List.set_cons_succ]
                  refine Last2.last_take (i := 7) (d := some 99) (v := .int .i64 t0) rfl rfl (by kernel_rfl) (by kernel_rfl) (by kernel_rfl) (fun _ _ _ h => h) rfl (by kernel_rfl) (by kernel_rfl) rfl ?_ S0 ?_
                  · (intro V hV; (try dsimp only at hV); go_simp; try with_reducible rfl)
                  simp only [Act.put, List.setIfInBounds_toArray, List.set_cons_zero, List.set_cons_succ]
                  refine Last2.last_take (i := 8) (d := some 100) (v := .pointer (some ⟨w.heap.size, 0, none⟩)) rfl rfl (by kernel_rfl) (by kernel_rfl) (by kernel_rfl) (fun _ _ _ h => h) rfl (by kernel_rfl) (by kernel_rfl) rfl ?_ S0 ?_
                  · (intro V hV; (try dsimp only at hV); go_simp; try with_reducible rfl)
                  simp only [Act.put, List.setIfInBounds_toArray, List.set_cons_zero, List.set_cons_succ]
                  refine Last2.last_take (i := 9) (d := some 101) (v := .slice (some ad) n c) rfl rfl (by kernel_rfl) (by kernel_rfl) (by kernel_rfl) (fun _ _ _ h => h) rfl (by kernel_rfl) (by kernel_rfl) rfl ?_ S0 ?_
                  · (intro V hV; (try dsimp only at hV); go_simp; try with_reducible rfl)
                  simp only [Act.put, List.setIfInBounds_toArray, List.set_cons_zero, List.set_cons_succ]
                  refine Last2.last_take (i := 10) (d := some 102) (v := .int .i64 (i : Int)) rfl rfl (by kernel_rfl) (by kernel_rfl) (by kernel_rfl) (fun _ _ _ h => h) rfl (by kernel_rfl) (by kernel_rfl) rfl ?_ S0 ?_
                  · (intro V hV; (try dsimp only at hV); go_simp; try with_reducible rfl)
                  simp only [Act.put, List.setIfInBounds_toArray, List.set_cons_zero, List.set_cons_succ]
                  refine Last2.last_take (i := 11) (d := some 103) (v := .pointer (some (ad.add (i * 3)))) rfl rfl (by kernel_rfl) (by kernel_rfl) (by kernel_rfl) (fun _ _ _ h => h) rfl (by kernel_rfl) (by kernel_rfl) rfl ?_ S0 ?_
                  · (intro V hV; (try dsimp only at hV); go_simp; try with_reducible rfl)
                  simp only [Act.put, List.setIfInBounds_toArray, List.set_cons_zero, List.set_cons_succ]
                  refine Last2.last_take (i := 12) (d := some 104) (v := .pointer (some ⟨(ad.add (i * 3)).block, (ad.add (i * 3)).off + 1, none⟩)) rfl rfl (by kernel_rfl) (by kernel_rfl) (by kernel_rfl) (fun _ _ _ h => h) rfl (by kernel_rfl) (by kernel_rfl) rfl ?_ S0 ?_
                  · (intro V hV; (try dsimp only at hV); go_simp; try with_reducible rfl)
                  simp only [Act.put, List.setIfInBounds_toArray, List.set_cons_zero, List.set_cons_succ]
                  refine Last2.last_take (i := 13) (d := some 105) (v := .int .i64 t1) rfl rfl (by kernel_rfl) (by kernel_rfl) (by kernel_rfl) (fun _ _ _ h => h) rfl (by kernel_rfl) (by kernel_rfl) rfl ?_ S0 ?_
                  · (intro V hV; (try dsimp only at hV); go_simp; try with_reducible rfl)
                  simp only [Act.put, List.setIfInBounds_toArray, List.set_cons_zero, List.set_cons_succ]
                  refine Last2.last_take (i := 14) (d := some 106) (v := .slice Ag ml cg) rfl rfl (by kernel_rfl) (by kernel_rfl) (by kernel_rfl) (fun _ _ _ h => h) rfl (by kernel_rfl) (by kernel_rfl) rfl ?_ S0 ?_
                  · (intro V hV; (try dsimp only at hV); go_simp; try with_reducible rfl)
                  simp only [Act.put, List.setIfInBounds_toArray, List.set_cons_zero, List.set_cons_succ]
                  refine Last2.last_take (i := 15) (d := some 107) (v := .agg #[.int .i64 t0, .int .i64 t1, .slice Ag ml cg]) rfl rfl (by kernel_rfl) (by kernel_rfl) (by kernel_rfl) (fun _ _ _ h => h) rfl (by kernel_rfl) (by kernel_rfl) rfl ?_ S0 ?_
                  · (intro V hV; (try dsimp only at hV); go_simp; try with_reducible rfl)
                  simp only [Act.put, List.setIfInBounds_toArray, List.set_cons_zero, List.set_cons_succ]
                  have HOU := Lib.hid (own_below HOW.out (show Below wr.heap.size wr wr.drew from (Below.refl _ _).drew) (Nat.le_refl _))
                  have HBU := Lib.hid hbU
                  have szU : W.heap.size ≤ wr.drew.heap.size := swr
                  clear S0 zm zr c0 c1 c2 RI A2i HBI HOW hbU swr GI
                  generalize wr.drew = U at *
                  have hgU : ∀ V, Below U.heap.size U V → (fun V : World => V.cell? ⟨bm, 0, none⟩ = some (.slice Av m cv) ∧ V.cell? ⟨w.heap.size, 0, none⟩ = some (.slice (some ad) n c) ∧ V.cell? (ad.add (i * 3)) = some (.int .i64 t0) ∧ V.cell? ⟨(ad.add (i * 3)).block, (ad.add (i * 3)).off + 1, none⟩ = some (.int .i64 t1) ∧ V.cell? ⟨(ad.add (i * 3)).block, (ad.add (i * 3)).off + 2, none⟩ = some (.slice Ai ml ci)) V := fun V b => HSB.out V (HBU.out.trans (b.mono HBU.out.size))
                  have HSU := Lib.hid hgU
                  have szq := HBU.out.size
                  clear hgU
                  refine Last2.last_one (i := 16) (o := { dst := some 108, op := .buildSlice 27 1 #[(0, .tmp 107)], type := _, pos := _, after := _, guard := none }) (by kernel_rfl) rfl rfl (fun K hK => ?_)
                  go_simp
                  have b5 : Below U.heap.size U (U.alloc (.cells #[.int .i64 t0, .int .i64 t1, .slice Ag ml cg] 55)) := (Below.refl _ _).alloc (Nat.le_refl _) _
                  refine hK.out _ _ (fun _ => HSU.out _ b5) ?_
                  clear hK K
                  try simp only [Act.put, List.setIfInBounds_toArray, List.set_cons_zero, List.set_cons_succ]
                  obtain ⟨vals, v1, v2, v3, v4⟩ := G.out.own
                  rw [HQL.out] at v2
                  have HV2 := Lib.hid v2
                  have HV := Lib.hid (And.intro v1 (And.intro v3 v4))
                  have hone : ∀ u ∈ ([.int .i64 t0, .int .i64 t1, .slice Ag ml cg] : List Value), u.oneCell' = true := by intro u hu; simp at hu; rcases hu with rfl | rfl | rfl <;> rfl
                  have OR := Lib.hid (own_alloc (own_below v2 HBU.out (Nat.le_refl _)) (.cells #[.int .i64 t0, .int .i64 t1, .slice Ag ml cg] 55))
                  have PR := Lib.hid (node_own (heap1_0 U (.cells #[.int .i64 t0, .int .i64 t1, .slice Ag ml cg] 55)))
                  have hsz5 : h0 ≤ (U.alloc (.cells #[.int .i64 t0, .int .i64 t1, .slice Ag ml cg] 55)).heap.size := by simp; omega
                  have OP := Lib.hid (own_alloc HOU.out (.cells #[.int .i64 t0, .int .i64 t1, .slice Ag ml cg] 55))
                  have B5 := Lib.hid b5
                  clear v1 v2 v3 v4 b5
                  refine Last2.last_one (i := 17) (o := { dst := some 109, op := .call { callee := .builtin .append, args := #[.tmp 93, .tmp 108], argTypes := #[27, 27] }, type := _, pos := _, after := _, guard := none }) (by kernel_rfl) rfl rfl (fun K hK => ?_)
                  refine App.row_wp _ (.tmp 93) (.tmp 108) 27 rfl h0 0 55 i5 _ 3 40 Try.underlying27 hi5 hy0 hy1 hy2 rfl (by decide) _ _ _ rfl OR.out _ 1 [.int .i64 t0, .int .i64 t1, .slice Ag ml cg] rfl PR.out hone (by unfold maxLen; omega) (by omega) hsz5 ?_
                  intro v2 w6 o6 g6 t6
                  obtain ⟨A6, c6, rfl⟩ := own_slice o6
                  have c56 : Chg (fun b => (Value.slice Av m cv).ownBlock = some b) wq w6 := ((Chg.of_below (C := fun b => (Value.slice Av m cv).ownBlock = some b) HBU.out).new _).trans (App.Chg.of_grown' (C := fun b => (Value.slice Av m cv).ownBlock = some b) g6 (fun k hk => hk)) (fun _ _ h => h)
                  have lqs : w.heap.size < wq.heap.size := by rw [hhe'.out]; omega
                  have vlo := Lib.hid (fun b hb => (HV2.out.lt b hb).1)
                  have key : ∀ q : Addr, q.block ≤ w.heap.size → w6.cell? q = wq.cell? q := fun q hq => c56.cell (by omega) (fun h => by
                    have h5 := vlo.out q.block h
                    omega)
                  have hadb : ∀ q, (ad.add q).block ≤ w.heap.size := fun q => by rw [block_of_add]; omega
                  have hu0 := HSB.out wq (Below.refl _ _)
                  have bx6 := G.out.box.chg c56 (fun h => App.own_blk_ne HV2.out G.out.box (by decide) h)
                  have S6 : (fun V : World => V.cell? ⟨bm, 0, none⟩ = some (.slice Av m cv) ∧ V.cell? ⟨w.heap.size, 0, none⟩ = some (.slice (some ad) n c) ∧ V.cell? (ad.add (i * 3)) = some (.int .i64 t0) ∧ V.cell? ⟨(ad.add (i * 3)).block, (ad.add (i * 3)).off + 1, none⟩ = some (.int .i64 t1) ∧ V.cell? ⟨(ad.add (i * 3)).block, (ad.add (i * 3)).off + 2, none⟩ = some (.slice Ai ml ci)) w6 := ⟨bx6.cells 0, (key ⟨w.heap.size, 0, none⟩ (Nat.le_refl _)).trans hu0.2.1, (key _ (hadb _)).trans hu0.2.2.1, (key ⟨(ad.add (i * 3)).block, (ad.add (i * 3)).off + 1, none⟩ (hadb _)).trans hu0.2.2.2.1, (key ⟨(ad.add (i * 3)).block, (ad.add (i * 3)).off + 2, none⟩ (hadb _)).trans hu0.2.2.2.2⟩
                  clear key hadb hu0
                  have u6 : w6.ownsRow h0 3 1 (.slice Ag ml cg) ml (cellsI (t2.map (newE a))) := own_mono (own_chg OP.out (App.Chg.of_grown' (C := fun b => (Value.slice Av m cv).ownBlock = some b) g6 (fun k hk => hk)) (fun k hk hk2 => App.own_ne OR.out OP.out (by decide) hk2 hk)) (by omega)
                  have FP := Fs.push (s := nodeG (newE a) (t0, t1, t2)) (u := .slice Ag ml cg) (v2 := .slice A6 (m + 1) c6) G.out HV.out.1 (by rw [HQL.out]; exact HV2.out) HV.out.2.1 HV.out.2.2 c56 (by
                      rcases t6 with t6 | t6
                      · exact .inl t6
                      · exact .inr ⟨_, t6, by simp; omega⟩) l5 (by rw [HQL.out, cellsN_append]; exact o6) (by simp only [nodeG, List.length_map, HML.out]; exact u6) (fun b hb => by rw [hhe'.out]; exact (HOU.out.lt b hb).1)
                  rw [← hN.out] at FP
                  have zm6 : w6.cell? ⟨bm, 0, none⟩ = some (.slice Av m cv) := bx6.cells 0
                  have fm6 : w6.frozen? ⟨bm, 0, none⟩ = false := bx6.frozen 0
                  have HFP := Lib.hid FP
                  refine hK.out _ _ (fun _ => S6) ?_
                  clear hK K o6 g6 t6 c56 u6 FP bx6 OP OR PR hone HV HV2 B5 vlo
                  try simp only [Act.put, List.setIfInBounds_toArray, List.set_cons_zero, List.set_cons_succ]
                  refine Last2.last_one (i := 18) (o := { dst := some 110, op := .fieldAddr 29 (.tmp 6) 0, type := _, pos := _, after := _, guard := none }) (by kernel_rfl) rfl rfl (fun K hK => ?_)
                  go_simp
                  refine hK.out _ _ (fun _ => S6) ?_
                  clear hK K S6
                  try simp only [Act.put, List.setIfInBounds_toArray, List.set_cons_zero, List.set_cons_succ]
                  refine Last2.last_one (i := 19) (o := { dst := none, op := .store 27 (.tmp 110) (.tmp 109), type := _, pos := _, after := _, guard := none }) (by kernel_rfl) rfl rfl (fun K hK => ?_)
                  go_simp
                  refine hK.out _ _ (fun h => (h (by decide)).elim) ?_
                  clear hK K
                  try simp only [Act.put, List.setIfInBounds_toArray, List.set_cons_zero, List.set_cons_succ]
                  refine Last2.last_done (by kernel_rfl) ?_ _
                  generalize w6.setCell ⟨bm, 0, none⟩ (.slice A6 (m + 1) c6) = w7 at *
                  clear zm6 fm6
                  go_wp2_with fail
                  go_roundw
                  case rel => first | exact ⟨i + 1, m + 1, A6, c6, by omega, by go_num, by omega, Lib.hid (by rw [hM.out, HM.out]), HFP.out⟩ | exact ⟨i + 1, by omega, by go_num, m + 1, by omega, Lib.hid (by rw [hM.out, HM.out]), A6, c6, HFP.out⟩
                  case measure => simp [intOf]; omega
            · obtain rfl : n = i := by omega
              have hlE := Lib.hid (show (prunedE p a n).length = m by rw [pruned_len, HM.out])
              have y4 : wr.cell? ⟨w.heap.size + 1, 0, none⟩ = some (.slice none 0 0) := (W1.out.chg G.out.chg (by omega)).cells 0
              have f4 : wr.frozen? ⟨w.heap.size + 1, 0, none⟩ = false := (W1.out.chg G.out.chg (by omega)).frozen 0
              have bb6 := Lib.hid (bb3.out.trans (G.out.chg.below bb3.out.size (fun b hb h => by omega)))
              clear B1 A2 XE RR
              go_wp2_with fail
              refine bodyPost_ret (v := .tuple #[.agg #[.slice Av m cv], .bool true]) (by simp [results, Try.results41, go_sem, y4]) rfl ?_
              rw [hs.out]
              refine ⟨Av, cv, by simp only [hlE.out], ?_, bb6.out.setCell (p := ⟨w.heap.size + 1, 0, none⟩) (by show w.heap.size ≤ w.heap.size + 1; omega) _⟩
              simp only [hlE.out]
              exact (G.out.own.chg (Chg.set _ ⟨w.heap.size + 1, 0, none⟩ _) (fun b hb _ => by show ¬ b = w.heap.size + 1; omega)).mono (by omega)
    · go_simp
      obtain ⟨V1, hV1⟩ : ∃ V1, U.alloc (.cells (madeCells #[Value.int .i64 0] n) 3) = V1 := ⟨_, rfl⟩
      have bV1 : Below U.heap.size U V1 := by rw [← hV1]; exact (Below.refl _ _).alloc (Nat.le_refl _) _
      obtain ⟨g2, hg3⟩ : ∃ g2, U.heap.size = g2 := ⟨_, rfl⟩
      have hA2' : Arr V1 g2 n (numA (waysE p x0) n 0) := by rw [← hV1, ← hg3, numA_zero]; exact Arr.new (by omega)
      have lg4 : g2 < V1.heap.size := by rw [← hV1, ← hg3]; simp
      rw [hV1]
      refine hK.out _ _ (fun _ => (XD.out.below bV1 XD.out.lt).cells 0) ?_
      clear hK K
      try simp only [Act.put, List.setIfInBounds_toArray, List.set_cons_zero, List.set_cons_succ]
      refine Last2.last_one (i := 2) (o := { dst := some 22, op := .call { callee := .value (.func 57), args := #[.tmp 20, .tmp 21], argTypes := _ }, type := _, pos := _, after := _, guard := none }) (by kernel_rfl) rfl rfl (fun K hK => ?_)
      go_simp
      refine (hW.out _ ((RU.out.below bV1).more bV1.size)).mono ?_
      rintro e V2 ⟨g1, rfl, hg1, hg2, hA1', bV2⟩
      have bUV : Below U.heap.size U V2 := bV1.trans (bV2.mono bV1.size)
      have S2 : (fun V : World => V.cell? ⟨w.heap.size, 0, none⟩ = some (.slice A n c)) V2 := (XD.out.below bUV XD.out.lt).cells 0
      refine hK.out _ _ (fun _ => S2) ?_
      clear hK K
      try simp only [Act.put, List.setIfInBounds_toArray, List.set_cons_zero, List.set_cons_succ]
      refine Last2.last_take (i := 7) (d := some 7) (v := .slice (some ⟨g1, 0, none⟩) n n) rfl rfl (by kernel_rfl) (by kernel_rfl) (by kernel_rfl) (fun _ _ _ h => h) rfl (by kernel_rfl) (by kernel_rfl) rfl ?_ S2 ?_
      · (intro V hV; (try dsimp only at hV); go_simp; try with_reducible rfl)
      simp only [Act.put, List.setIfInBounds_toArray, List.set_cons_zero, List.set_cons_succ]
      have hA2 : Arr V2 g2 n (numA (waysE p x0) n 0) := hA2'.chg (Chg.of_below (C := fun _ => False) ⟨bV2.os, bV2.tape, bV2.output, bV2.size, bV2.block⟩) (fun h => h)
      have lg1 : U.heap.size ≤ g1 := by have := bV1.size; omega
      have lg2 : U.heap.size ≤ g2 := by omega
      have lgg : g1 ≠ g2 := by omega
      have lV1 : g1 < V2.heap.size := hg2
      have lV2 : g2 < V2.heap.size := by have := bV2.size; omega
      simp only [hg3] at *
      clear hV1 hg3 hA2' hg1 hg2 S2 bV1 bV2 lg4
      refine Last2.last_one (i := 8) (o := { dst := some 8, op := .assign (.tmp 26), type := _, pos := _, after := _, guard := none }) (by kernel_rfl) rfl rfl (fun K hK => ?_)
      go_simp
      refine hK.out _ _ (fun h => (h (by decide)).elim) ?_
      clear hK K
      try simp only [Act.put, List.setIfInBounds_toArray, List.set_cons_zero, List.set_cons_succ]
      refine Last2.last_done (by kernel_rfl) ?_ _
      have bw1 : Below w1.heap.size w1 V2 := HU.out.trans (bUV.mono hsU)
      have bb2 := Lib.hid (bb.out.trans (bw1.mono bb.out.size))
      have Y1 := Lib.hid (X1.out.below bw1 X1.out.lt)
      have YE := Lib.hid (X0.out.below bw1 X0.out.lt)
      have YM := Lib.hid (XM.out.below bw1 XM.out.lt)
      have YH := Lib.hid (show V2.heap[h0]? = some (.cells #[] 55) from (bw1.block h0 (by omega)).trans XH.out)
      have R2 := Lib.hid (hRd.out.below bb2.out)
      have HA1 := Lib.hid hA1'
      have HA2 := Lib.hid hA2
      have hal := ways_len p x0
      rw [hL.out] at hal
      have HAL := Lib.hid hal
      have HWP := Lib.hid (fun (i j : Nat) (s : En) (z : Int) (h1 : p[i]? = some s) (h2 : s.2.2[j]? = some z) (h3 : 0 < getI (waysE p x0) i) => ways_part HOK.out (by rw [hL.out]; exact hxn) h1 h2 h3)
      have zb2 : V2.cell? ⟨w.heap.size, 0, none⟩ = some (.slice A n c) := YE.out.cells 0
      have lga : bm < g1 := by omega
      have lgb : bm < g2 := by omega
      clear bw1 X1 X0 XM XH hA1' hA2 hal XD RU bUV HU hW bb lg1 lg2 zb2
      generalize waysE p x0 = a at *
      go_wp2_with fail
      go_loopw [9] (fun i' wr => ∃ i : Nat, i ≤ n ∧ i' = .int .i64 i ∧ Arr wr g2 n (numA a n i) ∧ Chg (fun b => b = g2) V2 wr) (fun i' _ => n - (intOf i').toNat)
      case atStart => exact ⟨0, Nat.zero_le _, rfl, HA2.out, Chg.refl _ _⟩
      case round =>
        obtain ⟨i, hin, rfl, hA, hch⟩ := hrel
        have HA := Lib.hid hA
        have HC := Lib.hid hch
        have HB1 := Lib.hid (HA1.out.chg hch (fun h => lgg h))
        clear hA hch
        by_cases hlt : i < n
        · rcases Nat.eq_zero_or_pos i with h0' | h0'
          · subst h0'
            have hN : Hid (numA a n 1 = numA a n 0) := Lib.hid (by
              have h1 := set_getI (numA a n 0) 0
              rw [numA_at hlt, if_neg (by omega)] at h1
              rw [← h1, ← numA_next hlt, rk_zero]; rfl)
            go_wp2_with fail
            go_roundw
            case rel => exact ⟨1, by omega, by go_num, by rw [hN.out]; exact HA.out, HC.out⟩
            case measure => simp [intOf] <;> omega
          · obtain ⟨i', rfl⟩ : ∃ i', i = i' + 1 := ⟨i - 1, by omega⟩
            have hi' : i' < n := by omega
            obtain ⟨e1, e2⟩ := HA.out.at hi'
            rw [numA_at hi', if_pos (by omega)] at e1
            obtain ⟨e3, e4⟩ := HA.out.at hlt
            obtain ⟨f1, f2⟩ := HB1.out.at hi'
            have hnum := Lib.hid (numA_next (a := a) hlt)
            have hrkb := rk_le a i'
            by_cases hkp : 0 < getI a i'
            · rw [decide_eq_true hkp] at f1
              have hrk := Lib.hid (rk_yes hkp)
              have hne : g1 ≠ g2 := lgg
              clear hkp
              obtain ⟨r, hr⟩ : ∃ r, rkE a i' = r := ⟨_, rfl⟩
              have HR := Lib.hid hr
              rw [hr] at e1 hrkb
              generalize getI (numA a n (i' + 1)) (i' + 1) = zz at *
              clear hr
              have fs1 : ∀ v, (World.setCell wr ⟨g2, i' + 1, none⟩ v).cell? ⟨g1, i', none⟩ = some (.bool true) := fun v => (World.cell?_setCell_other _ _ _ _ (by intro e; exact hne (congrArg Addr.block e).symm)).trans f1
              go_wp2_with fail
              go_roundw
              case rel =>
                refine ⟨i' + 1 + 1, by omega, by go_num, ?_, (HC.out.put ⟨g2, i' + 1, none⟩ _ (.inr rfl)).put ⟨g2, i' + 1, none⟩ _ (.inr rfl)⟩
                have h1 := (HA.out.set (i' + 1) (r : Int)).set (i' + 1) ((r : Int) + 1)
                rw [List.set_set, show ((r : Int) + 1) = (rkE a (i' + 1) : Int) by rw [hrk.out, HR.out]; rfl, hnum.out] at h1
                have e : (rkE a (i' + 1) : Int) = (r : Int) + 1 := by rw [hrk.out, HR.out]; rfl
                first
                  | exact h1
                  | (rw [e] at h1; exact h1)
              case measure => simp [intOf] <;> omega
            · rw [decide_eq_false hkp] at f1
              have hrk := Lib.hid (rk_no hkp)
              have hne : g1 ≠ g2 := lgg
              clear hkp
              obtain ⟨r, hr⟩ : ∃ r, rkE a i' = r := ⟨_, rfl⟩
              have HR := Lib.hid hr
              rw [hr] at e1 hrkb
              generalize getI (numA a n (i' + 1)) (i' + 1) = zz at *
              clear hr
              have fs1 : ∀ v, (World.setCell wr ⟨g2, i' + 1, none⟩ v).cell? ⟨g1, i', none⟩ = some (.bool false) := fun v => (World.cell?_setCell_other _ _ _ _ (by intro e; exact hne (congrArg Addr.block e).symm)).trans f1
              go_wp2_with fail
              go_roundw
              case rel =>
                refine ⟨i' + 1 + 1, by omega, by go_num, ?_, HC.out.put ⟨g2, i' + 1, none⟩ _ (.inr rfl)⟩
                have h1 := HA.out.set (i' + 1) (r : Int)
                rw [show (r : Int) = (rkE a (i' + 1) : Int) by rw [hrk.out, HR.out], hnum.out] at h1
                have e : (rkE a (i' + 1) : Int) = (r : Int) := by rw [hrk.out, HR.out]
                first
                  | exact h1
                  | (rw [e] at h1; exact h1)
              case measure => simp [intOf] <;> omega
        · obtain rfl : n = i := by omega
          have WM := Lib.hid (YM.out.chg HC.out (by omega))
          have WH := Lib.hid (show wr.heap[h0]? = some (.cells #[] 55) from (HC.out.block h0 (by omega) (by omega)).trans YH.out)
          have W1 := Lib.hid (Y1.out.chg HC.out (by omega))
          have WE := Lib.hid (YE.out.chg HC.out (by omega))
          have WR := Lib.hid (rdE_chg R2.out HC.out (by omega) (fun b hb => by omega))
          have bb3 := Lib.hid (bb2.out.trans (HC.out.below bb2.out.size (fun b hb h => by omega)))
          have szw := HC.out.size
          have HFs := Lib.hid (Fs.nil (lo := h0) WH.out (Nat.le_refl _) WM.out)
          clear HC R2 YE Y1 YM YH WH WM
          go_wp2_with fail
          obtain ⟨wo, rfl⟩ : ∃ wo, wo = wr := ⟨_, rfl⟩
          have l5 : bm < wo.heap.size := by omega
          have lge : g1 < wo.heap.size := by omega
          have lgf : g2 < wo.heap.size := by omega
          go_loopw [10] (fun i' wr => ∃ (i m : Nat) (Av : Option Addr) (cv : Nat), i ≤ n ∧ i' = .int .i64 i ∧ m ≤ i ∧ Hid (rkE a i = m) ∧ Fs wo h0 h0 bm (.slice Av m cv) (prunedE p a i) wr) (fun i' _ => n - (intOf i').toNat)
          case atStart => exact ⟨0, 0, _, _, Nat.zero_le _, rfl, Nat.le_refl _, Lib.hid rfl, HFs.out⟩
          case round =>
            obtain ⟨i, m, Av, cv, hin, rfl, hmi, HM, hG⟩ := hrel
            have G := Lib.hid hG
            have szr := hG.chg.size
            have B1 := Lib.hid (HB1.out.chg hG.chg (by omega))
            have A2 := Lib.hid (HA.out.chg hG.chg (by omega))
            have XE := Lib.hid (WE.out.chg hG.chg (by omega))
            have zr : wr.cell? ⟨w.heap.size, 0, none⟩ = some (.slice A n c) := XE.out.cells 0
            have zm : wr.cell? ⟨bm, 0, none⟩ = some (.slice Av m cv) := hG.box.cells 0
            have RR := Lib.hid (rdE_chg WR.out hG.chg (by omega) (fun b hb => by omega))
            clear hG
            by_cases hlt : i < n
            · obtain ⟨f1, f2⟩ := B1.out.at hlt
              by_cases hkp : 0 < getI a i
              case neg =>
                rw [decide_eq_false hkp] at f1
                have hN := Lib.hid (pruned_no (e := p) hkp)
                have hM := Lib.hid (rk_no hkp)
                clear hkp
                go_wp2_with fail
                go_roundw
                case rel => first | exact ⟨i + 1, m, Av, cv, by omega, by go_num, by omega, Lib.hid (by rw [hM.out, HM.out]), by rw [hN.out]; exact G.out⟩ | exact ⟨i + 1, by omega, by go_num, m, by omega, Lib.hid (by rw [hM.out, HM.out]), Av, cv, by rw [hN.out]; exact G.out⟩
                case measure => simp [intOf]; omega
              case pos =>
              obtain ⟨⟨t0, t1, t2⟩, hsx⟩ : ∃ s, p[i]? = some s := ⟨_, List.getElem?_eq_getElem (by rw [hL.out]; exact hlt)⟩
              rw [decide_eq_true hkp] at f1
              have hN := Lib.hid (pruned_yes hsx hkp)
              have hM := Lib.hid (rk_yes hkp)
              obtain ⟨ad, Ai, ci, hAd, hab, c0, c1, c2, c3⟩ := RR.out i _ hsx
              have C3 := Lib.hid c3
              have HWi := Lib.hid (fun (q : Nat) (z : Int) (hz : t2[q]? = some z) => (show ∃ r : Nat, z = r ∧ r < n by
                obtain ⟨r, rfl, h1, h2⟩ := ok_part (s := (t0, t1, t2)) HOK.out hsx hz
                exact ⟨r, rfl, by rw [← hL.out]; exact h2⟩))
              have h12 : t2.length ≤ 12 := ok_many HOK.out hsx
              have hql : (prunedE p a i).length = m := by rw [pruned_len, HM.out]
              have HQL := Lib.hid hql
              obtain ⟨ml, hml⟩ : ∃ ml, t2.length = ml := ⟨_, rfl⟩
              have HML := Lib.hid hml
              rw [hAd] at zr XE
              dsimp only at c0 c1 c2
              rw [hml] at c2 h12
              have hSB : ∀ V, Below wr.heap.size wr V → (fun V : World => V.cell? ⟨bm, 0, none⟩ = some (.slice Av m cv) ∧ V.cell? ⟨w.heap.size, 0, none⟩ = some (.slice (some ad) n c) ∧ V.cell? (ad.add (i * 3)) = some (.int .i64 t0) ∧ V.cell? ⟨(ad.add (i * 3)).block, (ad.add (i * 3)).off + 1, none⟩ = some (.int .i64 t1) ∧ V.cell? ⟨(ad.add (i * 3)).block, (ad.add (i * 3)).off + 2, none⟩ = some (.slice Ai ml ci)) V := fun V b => ⟨(G.out.box.below b G.out.box.lt).cells 0, (b.cell (p := ⟨w.heap.size, 0, none⟩) (by show w.heap.size < wr.heap.size; omega)).trans zr, (b.cell (by rw [block_of_add]; show ad.block < wr.heap.size; omega)).trans c0, (b.cell (by show (ad.add _).block < wr.heap.size; rw [block_of_add]; omega)).trans c1, (b.cell (by show (ad.add _).block < wr.heap.size; rw [block_of_add]; omega)).trans c2⟩
              have HSB := Lib.hid hSB
              clear hsx hkp c0 c1 c2 c3 hql hSB hml B1
              go_wp2_with fail
              obtain ⟨W, hW⟩ : ∃ W, wr.alloc (.cells #[] 3) = W := ⟨_, rfl⟩
              obtain ⟨he, hhe⟩ : ∃ he, wr.heap.size = he := ⟨_, rfl⟩
              have bW : Below wr.heap.size wr W := by rw [← hW]; exact (Below.refl _ _).alloc (Nat.le_refl _) _
              have eW : W.heap[he]? = some (.cells #[] 3) := by rw [← hW, ← hhe]; exact heap1_0 _ _
              have RW := Lib.hid (C3.out.below (bW.mono (by omega)))
              have A2W := Lib.hid (A2.out.chg (Chg.of_below (C := fun _ => False) bW) (fun h => h))
              have SW := Lib.hid (HSB.out W bW)
              have hgr : Grow W he he (.slice (some ⟨he, 0, none⟩) 0 0) ((t2.map (newE a)).take 0) W := ⟨App.empty_own eW (by omega), fun b hb => .inl (by simpa [Value.ownBlock] using hb.symm), Chg.refl _ _⟩
              have HGR := Lib.hid hgr
              have BW := Lib.hid bW
              have lW : he < W.heap.size := (Array.getElem?_eq_some_iff.1 eW).1
              rw [hW, hhe]
              rw [hhe] at szr BW
              have hhe' := Lib.hid hhe
              clear hW hgr bW eW zr zm RR C3 A2 XE f1 f2 hhe
              obtain ⟨wq, rfl⟩ : ∃ wq, wq = wr := ⟨_, rfl⟩
              go_loopw [11, 12] (fun v i' wi => ∃ (q : Nat) (Ag : Option Addr) (cg : Nat), q ≤ ml ∧ i' = .int .i64 q ∧ v = .slice Ag q cg ∧ Grow W he he (.slice Ag q cg) ((t2.map (newE a)).take q) wi) (fun _ i' _ => ml - (intOf i').toNat)
              case atStart => exact ⟨0, _, _, Nat.zero_le _, rfl, rfl, HGR.out⟩
              case round =>
                obtain ⟨q, Ag, cg, hq, rfl, rfl, hG2⟩ := hrel
                have GI := Lib.hid hG2
                have swr := hG2.chg.size
                have hbi : Below wq.heap.size wq wr := by rw [hhe'.out]; exact BW.out.trans (hG2.chg.below (by omega) (fun b hb h => by omega))
                have HBI := Lib.hid hbi
                obtain ⟨zm, zr, c0, c1, c2⟩ := HSB.out wr hbi
                have RI := Lib.hid (rdI_chg RW.out hG2.chg (by omega) (fun b hb => by omega))
                have A2i := Lib.hid (A2W.out.chg hG2.chg (by omega))
                clear hG2 hbi
                by_cases hql : q < ml
                · obtain ⟨z, hz⟩ : ∃ z, t2[q]? = some z := ⟨_, List.getElem?_eq_getElem (by rw [HML.out]; exact hql)⟩
                  obtain ⟨r, rfl, hrn⟩ := HWi.out q z hz
                  obtain ⟨aq, haq, _, d0⟩ := RI.out q _ hz
                  obtain ⟨e1, _⟩ := A2i.out.at hrn
                  rw [numA_at hrn, if_pos hrn] at e1
                  have hN2 : (t2.map (newE a)).take (q + 1) = (t2.map (newE a)).take q ++ [(rkE a r : Int)] := by rw [List.take_add_one, List.getElem?_map, hz]; rfl
                  have hlq : ((t2.map (newE a)).take q).length = q := by rw [List.length_take, List.length_map, HML.out, Nat.min_eq_left (by omega)]
                  have hown : wr.ownsRow he 3 1 (.slice Ag q cg) q (cellsI ((t2.map (newE a)).take q)) := by have := GI.out.own; rwa [hlq] at this
                  obtain ⟨rr, hrr⟩ : ∃ rr : Int, (rkE a r : Int) = rr := ⟨_, rfl⟩
                  rw [hrr] at e1 hN2
                  have HN2 := Lib.hid hN2
                  have HOW := Lib.hid hown
                  have HLQ := Lib.hid hlq
                  rw [haq] at c2
                  clear hz hN2 hown hlq haq hrr
                  go_wp2_with (at_builtin; refine App.row_list _ rfl (.tmp 77) (.tmp 90) 33 rfl he 0 3 i0 _ 1 8 Try.underlying33 hi hz0 hz1 hz2 rfl (by decide) (.slice Ag q cg) q (cellsI ((t2.map (newE a)).take q)) rfl (own_alloc HOW.out _) (.slice (some ⟨wr.heap.size, 0, none⟩) 1 1) 1 [.int .i64 rr] rfl (App.one_own (heap1_0 wr _)) (by intro u hu; simp at hu; rw [hu]; rfl) (by unfold maxLen; omega) (by omega) (by simp; omega) ?_)
                  intro v1 w5 o1 g1' t1'
                  have hp := GI.out.push (z := rr) (v' := v1) (w' := w5) (.cells #[.int .i64 rr] 3) rfl (by rw [HLQ.out]; exact o1) g1' (by simpa using t1')
                  rw [← HN2.out] at hp
                  have HP := Lib.hid hp
                  obtain ⟨A1, c1', rfl⟩ := own_slice o1
                  clear o1 g1' t1' hp
                  go_wp2_with fail
                  go_roundw
                  case rel => exact ⟨q + 1, _, _, by omega, by go_num, rfl, HP.out⟩
                  case measure => simp [intOf]; omega
                · obtain rfl : ml = q := by omega
                  have hfull : (t2.map (newE a)).take ml = t2.map (newE a) := List.take_of_length_le (by rw [List.length_map, HML.out]; exact Nat.le_refl _)
                  have hlq : (t2.map (newE a)).length = ml := by rw [List.length_map, HML.out]
                  have hown : wr.ownsRow he 3 1 (.slice Ag ml cg) ml (cellsI (t2.map (newE a))) := by have := GI.out.own; rwa [hfull, hlq] at this
                  have HOW := Lib.hid hown
                  clear hfull hlq hown
                  go_wp2_with fail
                  have hbU : Below wq.heap.size wq wr.drew := HBI.out.trans ((Below.refl _ _).drew)
                  have S0 : (fun V : World => V.cell? ⟨bm, 0, none⟩ = some (.slice Av m cv) ∧ V.cell? ⟨w.heap.size, 0, none⟩ = some (.slice (some ad) n c) ∧ V.cell? (ad.add (i * 3)) = some (.int .i64 t0) ∧ V.cell? ⟨(ad.add (i * 3)).block, (ad.add (i * 3)).off + 1, none⟩ = some (.int .i64 t1) ∧ V.cell? ⟨(ad.add (i * 3)).block, (ad.add (i * 3)).off + 2, none⟩ = some (.slice Ai ml ci)) wr.drew := ⟨zm, zr, c0, c1, c2⟩
                  refine Last2.region_last [19] (fun V : World => V.cell? ⟨bm, 0, none⟩ = some (.slice Av m cv) ∧ V.cell? ⟨w.heap.size, 0, none⟩ = some (.slice (some ad) n c) ∧ V.cell? (ad.add (i * 3)) = some (.int .i64 t0) ∧ V.cell? ⟨(ad.add (i * 3)).block, (ad.add (i * 3)).off + 1, none⟩ = some (.int .i64 t1) ∧ V.cell? ⟨(ad.add (i * 3)).block, (ad.add (i * 3)).off + 2, none⟩ = some (.slice Ai ml ci)) (by kernel_rfl) ?_
                  refine Last2.last_take (i := 0) (d := some 92) (v := .pointer (some ⟨bm, 0, none⟩)) rfl rfl (by kernel_rfl) (by kernel_rfl) (by kernel_rfl) (fun _ _ _ h => h) rfl (by kernel_rfl) (by kernel_rfl) rfl ?_ S0 ?_
                  · (intro V hV; (try dsimp only at hV); go_simp; try with_reducible rfl)
                  simp only [Act.put, List.setIfInBounds_toArray, List.set_cons_zero, List.set_cons_succ]
                  refine Last2.last_take (i := 1) (d := some 93) (v := .slice Av m cv) rfl rfl (by kernel_rfl) (by kernel_rfl) (by kernel_rfl) (fun _ _ _ h => h) rfl (by kernel_rfl) (by kernel_rfl) rfl ?_ S0 ?_
                  · (intro V hV; (try dsimp only at hV); go_simp; try with_reducible rfl)
                  simp only [Act.put, List.setIfInBounds_toArray, List.set_cons_zero, List.set_cons_succ]
                  refine Last2.last_take (i := 2) (d := some 94) (v := .pointer (some ⟨w.heap.size, 0, none⟩)) rfl rfl (by kernel_rfl) (by kernel_rfl) (by kernel_rfl) (fun _ _ _ h => h) rfl (by kernel_rfl) (by kernel_rfl) rfl ?_ S0 ?_
                  · (intro V hV; (try dsimp only at hV); go_simp; try with_reducible rfl)
                  simp only [Act.put, List.setIfInBounds_toArray, List.set_cons_zero, List.set_cons_succ]
                  refine Last2.last_take (i := 3) (d := some 95) (v := .slice (some ad) n c) rfl rfl (by kernel_rfl) (by kernel_rfl) (by kernel_rfl) (fun _ _ _ h => h) rfl (by kernel_rfl) (by kernel_rfl) rfl ?_ S0 ?_
                  · (intro V hV; (try dsimp only at hV); go_simp; try with_reducible rfl)
                  simp only [Act.put, List.setIfInBounds_toArray, List.set_cons_zero, List.set_cons_succ]
                  refine Last2.last_take (i := 4) (d := some 96) (v := .int .i64 (i : Int)) rfl rfl (by kernel_rfl) (by kernel_rfl) (by kernel_rfl) (fun _ _ _ h => h) rfl (by kernel_rfl) (by kernel_rfl) rfl ?_ S0 ?_
                  · (intro V hV; (try dsimp only at hV); go_simp; try with_reducible rfl)
                  simp only [Act.put, List.setIfInBounds_toArray, List.set_cons_zero, List.set_cons_succ]
                  refine Last2.last_take (i := 5) (d := some 97) (v := .pointer (some (ad.add (i * 3)))) rfl rfl (by kernel_rfl) (by kernel_rfl) (by kernel_rfl) (fun _ _ _ h => h) rfl (by kernel_rfl) (by kernel_rfl) rfl ?_ S0 ?_
                  · (intro V hV; (try dsimp only at hV); go_simp; try with_reducible rfl)
                  simp only [Act.put, List.setIfInBounds_toArray, List.set_cons_zero, List.set_cons_succ]
                  refine Last2.last_take (i := 6) (d := some 98) (v := .pointer (some (ad.add (i * 3)))) rfl rfl (by kernel_rfl) (by kernel_rfl) (by kernel_rfl) (fun _ _ _ h => h) rfl (by kernel_rfl) (by kernel_rfl) rfl ?_ S0 ?_
                  · (intro V hV; (try dsimp only at hV); go_simp; try with_reducible rfl)
                  simp only [Act.put, List.setIfInBounds_toArray, List.set_cons_zero, List.set_cons_succ]
                  refine Last2.last_take (i := 7) (d := some 99) (v := .int .i64 t0) rfl rfl (by kernel_rfl) (by kernel_rfl) (by kernel_rfl) (fun _ _ _ h => h) rfl (by kernel_rfl) (by kernel_rfl) rfl ?_ S0 ?_
                  · (intro V hV; (try dsimp only at hV); go_simp; try with_reducible rfl)
                  simp only [Act.put, List.setIfInBounds_toArray, List.set_cons_zero, List.set_cons_succ]
                  refine Last2.last_take (i := 8) (d := some 100) (v := .pointer (some ⟨w.heap.size, 0, none⟩)) rfl rfl (by kernel_rfl) (by kernel_rfl) (by kernel_rfl) (fun _ _ _ h => h) rfl (by kernel_rfl) (by kernel_rfl) rfl ?_ S0 ?_
                  · (intro V hV; (try dsimp only at hV); go_simp; try with_reducible rfl)
                  simp only [Act.put, List.setIfInBounds_toArray, List.set_cons_zero, List.set_cons_succ]
                  refine Last2.last_take (i := 9) (d := some 101) (v := .slice (some ad) n c) rfl rfl (by kernel_rfl) (by kernel_rfl) (by kernel_rfl) (fun _ _ _ h => h) rfl (by kernel_rfl) (by kernel_rfl) rfl ?_ S0 ?_
                  · (intro V hV; (try dsimp only at hV); go_simp; try with_reducible rfl)
                  simp only [Act.put, List.setIfInBounds_toArray, List.set_cons_zero, List.set_cons_succ]
                  refine Last2.last_take (i := 10) (d := some 102) (v := .int .i64 (i : Int)) rfl rfl (by kernel_rfl) (by kernel_rfl) (by kernel_rfl) (fun _ _ _ h => h) rfl (by kernel_rfl) (by kernel_rfl) rfl ?_ S0 ?_
                  · (intro V hV; (try dsimp only at hV); go_simp; try with_reducible rfl)
                  simp only [Act.put, List.setIfInBounds_toArray, List.set_cons_zero, List.set_cons_succ]
                  refine Last2.last_take (i := 11) (d := some 103) (v := .pointer (some (ad.add (i * 3)))) rfl rfl (by kernel_rfl) (by kernel_rfl) (by kernel_rfl) (fun _ _ _ h => h) rfl (by kernel_rfl) (by kernel_rfl) rfl ?_ S0 ?_
                  · (intro V hV; (try dsimp only at hV); go_simp; try with_reducible rfl)
                  simp only [Act.put, List.setIfInBounds_toArray, List.set_cons_zero, List.set_cons_succ]
                  refine Last2.last_take (i := 12) (d := some 104) (v := .pointer (some ⟨(ad.add (i * 3)).block, (ad.add (i * 3)).off + 1, none⟩)) rfl rfl (by kernel_rfl) (by kernel_rfl) (by kernel_rfl) (fun _ _ _ h => h) rfl (by kernel_rfl) (by kernel_rfl) rfl ?_ S0 ?_
                  · (intro V hV; (try dsimp only at hV); go_simp; try with_reducible rfl)
                  simp only [Act.put, List.setIfInBounds_toArray, List.set_cons_zero, List.set_cons_succ]
                  refine Last2.last_take (i := 13) (d := some 105) (v := .int .i64 t1) rfl rfl (by kernel_rfl) (by kernel_rfl) (by kernel_rfl) (fun _ _ _ h => h) rfl (by kernel_rfl) (by kernel_rfl) rfl ?_ S0 ?_
                  · (intro V hV; (try dsimp only at hV); go_simp; try with_reducible rfl)
                  simp only [Act.put, List.setIfInBounds_toArray, List.set_cons_zero, List.set_cons_succ]
                  refine Last2.last_take (i := 14) (d := some 106) (v := .slice Ag ml cg) rfl rfl (by kernel_rfl) (by kernel_rfl) (by kernel_rfl) (fun _ _ _ h => h) rfl (by kernel_rfl) (by kernel_rfl) rfl ?_ S0 ?_
                  · (intro V hV; (try dsimp only at hV); go_simp; try with_reducible rfl)
                  simp only [Act.put, List.setIfInBounds_toArray, List.set_cons_zero, List.set_cons_succ]
                  refine Last2.last_take (i := 15) (d := some 107) (v := .agg #[.int .i64 t0, .int .i64 t1, .slice Ag ml cg]) rfl rfl (by kernel_rfl) (by kernel_rfl) (by kernel_rfl) (fun _ _ _ h => h) rfl (by kernel_rfl) (by kernel_rfl) rfl ?_ S0 ?_
                  · (intro V hV; (try dsimp only at hV); go_simp; try with_reducible rfl)
                  simp only [Act.put, List.setIfInBounds_toArray, List.set_cons_zero, List.set_cons_succ]
                  have HOU := Lib.hid (own_below HOW.out (show Below wr.heap.size wr wr.drew from (Below.refl _ _).drew) (Nat.le_refl _))
                  have HBU := Lib.hid hbU
                  have szU : W.heap.size ≤ wr.drew.heap.size := swr
                  clear S0 zm zr c0 c1 c2 RI A2i HBI HOW hbU swr GI
                  generalize wr.drew = U at *
                  have hgU : ∀ V, Below U.heap.size U V → (fun V : World => V.cell? ⟨bm, 0, none⟩ = some (.slice Av m cv) ∧ V.cell? ⟨w.heap.size, 0, none⟩ = some (.slice (some ad) n c) ∧ V.cell? (ad.add (i * 3)) = some (.int .i64 t0) ∧ V.cell? ⟨(ad.add (i * 3)).block, (ad.add (i * 3)).off + 1, none⟩ = some (.int .i64 t1) ∧ V.cell? ⟨(ad.add (i * 3)).block, (ad.add (i * 3)).off + 2, none⟩ = some (.slice Ai ml ci)) V := fun V b => HSB.out V (HBU.out.trans (b.mono HBU.out.size))
                  have HSU := Lib.hid hgU
                  have szq := HBU.out.size
                  clear hgU
                  refine Last2.last_one (i := 16) (o := { dst := some 108, op := .buildSlice 27 1 #[(0, .tmp 107)], type := _, pos := _, after := _, guard := none }) (by kernel_rfl) rfl rfl (fun K hK => ?_)
                  go_simp
                  have b5 : Below U.heap.size U (U.alloc (.cells #[.int .i64 t0, .int .i64 t1, .slice Ag ml cg] 55)) := (Below.refl _ _).alloc (Nat.le_refl _) _
                  refine hK.out _ _ (fun _ => HSU.out _ b5) ?_
                  clear hK K
                  try simp only [Act.put, List.setIfInBounds_toArray, List.set_cons_zero, List.set_cons_succ]
                  obtain ⟨vals, v1, v2, v3, v4⟩ := G.out.own
                  rw [HQL.out] at v2
                  have HV2 := Lib.hid v2
                  have HV := Lib.hid (And.intro v1 (And.intro v3 v4))
                  have hone : ∀ u ∈ ([.int .i64 t0, .int .i64 t1, .slice Ag ml cg] : List Value), u.oneCell' = true := by intro u hu; simp at hu; rcases hu with rfl | rfl | rfl <;> rfl
                  have OR := Lib.hid (own_alloc (own_below v2 HBU.out (Nat.le_refl _)) (.cells #[.int .i64 t0, .int .i64 t1, .slice Ag ml cg] 55))
                  have PR := Lib.hid (node_own (heap1_0 U (.cells #[.int .i64 t0, .int .i64 t1, .slice Ag ml cg] 55)))
                  have hsz5 : h0 ≤ (U.alloc (.cells #[.int .i64 t0, .int .i64 t1, .slice Ag ml cg] 55)).heap.size := by simp; omega
                  have OP := Lib.hid (own_alloc HOU.out (.cells #[.int .i64 t0, .int .i64 t1, .slice Ag ml cg] 55))
                  have B5 := Lib.hid b5
                  clear v1 v2 v3 v4 b5
                  refine Last2.last_one (i := 17) (o := { dst := some 109, op := .call { callee := .builtin .append, args := #[.tmp 93, .tmp 108], argTypes := #[27, 27] }, type := _, pos := _, after := _, guard := none }) (by kernel_rfl) rfl rfl (fun K hK => ?_)
                  refine App.row_wp _ (.tmp 93) (.tmp 108) 27 rfl h0 0 55 i5 _ 3 40 Try.underlying27 hi5 hy0 hy1 hy2 rfl (by decide) _ _ _ rfl OR.out _ 1 [.int .i64 t0, .int .i64 t1, .slice Ag ml cg] rfl PR.out hone (by unfold maxLen; omega) (by omega) hsz5 ?_
                  intro v2 w6 o6 g6 t6
                  obtain ⟨A6, c6, rfl⟩ := own_slice o6
                  have c56 : Chg (fun b => (Value.slice Av m cv).ownBlock = some b) wq w6 := ((Chg.of_below (C := fun b => (Value.slice Av m cv).ownBlock = some b) HBU.out).new _).trans (App.Chg.of_grown' (C := fun b => (Value.slice Av m cv).ownBlock = some b) g6 (fun k hk => hk)) (fun _ _ h => h)
                  have lqs : w.heap.size < wq.heap.size := by rw [hhe'.out]; omega
                  have vlo := Lib.hid (fun b hb => (HV2.out.lt b hb).1)
                  have key : ∀ q : Addr, q.block ≤ w.heap.size → w6.cell? q = wq.cell? q := fun q hq => c56.cell (by omega) (fun h => by
                    have h5 := vlo.out q.block h
                    omega)
                  have hadb : ∀ q, (ad.add q).block ≤ w.heap.size := fun q => by rw [block_of_add]; omega
                  have hu0 := HSB.out wq (Below.refl _ _)
                  have bx6 := G.out.box.chg c56 (fun h => App.own_blk_ne HV2.out G.out.box (by decide) h)
                  have S6 : (fun V : World => V.cell? ⟨bm, 0, none⟩ = some (.slice Av m cv) ∧ V.cell? ⟨w.heap.size, 0, none⟩ = some (.slice (some ad) n c) ∧ V.cell? (ad.add (i * 3)) = some (.int .i64 t0) ∧ V.cell? ⟨(ad.add (i * 3)).block, (ad.add (i * 3)).off + 1, none⟩ = some (.int .i64 t1) ∧ V.cell? ⟨(ad.add (i * 3)).block, (ad.add (i * 3)).off + 2, none⟩ = some (.slice Ai ml ci)) w6 := ⟨bx6.cells 0, (key ⟨w.heap.size, 0, none⟩ (Nat.le_refl _)).trans hu0.2.1, (key _ (hadb _)).trans hu0.2.2.1, (key ⟨(ad.add (i * 3)).block, (ad.add (i * 3)).off + 1, none⟩ (hadb _)).trans hu0.2.2.2.1, (key ⟨(ad.add (i * 3)).block, (ad.add (i * 3)).off + 2, none⟩ (hadb _)).trans hu0.2.2.2.2⟩
                  clear key hadb hu0
                  have u6 : w6.ownsRow h0 3 1 (.slice Ag ml cg) ml (cellsI (t2.map (newE a))) := own_mono (own_chg OP.out (App.Chg.of_grown' (C := fun b => (Value.slice Av m cv).ownBlock = some b) g6 (fun k hk => hk)) (fun k hk hk2 => App.own_ne OR.out OP.out (by decide) hk2 hk)) (by omega)
                  have FP := Fs.push (s := nodeG (newE a) (t0, t1, t2)) (u := .slice Ag ml cg) (v2 := .slice A6 (m + 1) c6) G.out HV.out.1 (by rw [HQL.out]; exact HV2.out) HV.out.2.1 HV.out.2.2 c56 (by
                      rcases t6 with t6 | t6
                      · exact .inl t6
                      · exact .inr ⟨_, t6, by simp; omega⟩) l5 (by rw [HQL.out, cellsN_append]; exact o6) (by simp only [nodeG, List.length_map, HML.out]; exact u6) (fun b hb => by rw [hhe'.out]; exact (HOU.out.lt b hb).1)
                  rw [← hN.out] at FP
                  have zm6 : w6.cell? ⟨bm, 0, none⟩ = some (.slice Av m cv) := bx6.cells 0
                  have fm6 : w6.frozen? ⟨bm, 0, none⟩ = false := bx6.frozen 0
                  have HFP := Lib.hid FP
                  refine hK.out _ _ (fun _ => S6) ?_
                  clear hK K o6 g6 t6 c56 u6 FP bx6 OP OR PR hone HV HV2 B5 vlo
                  try simp only [Act.put, List.setIfInBounds_toArray, List.set_cons_zero, List.set_cons_succ]
                  refine Last2.last_one (i := 18) (o := { dst := some 110, op := .fieldAddr 29 (.tmp 6) 0, type := _, pos := _, after := _, guard := none }) (by kernel_rfl) rfl rfl (fun K hK => ?_)
                  go_simp
                  refine hK.out _ _ (fun _ => S6) ?_
                  clear hK K S6
                  try simp only [Act.put, List.setIfInBounds_toArray, List.set_cons_zero, List.set_cons_succ]
                  refine Last2.last_one (i := 19) (o := { dst := none, op := .store 27 (.tmp 110) (.tmp 109), type := _, pos := _, after := _, guard := none }) (by kernel_rfl) rfl rfl (fun K hK => ?_)
                  go_simp
                  refine hK.out _ _ (fun h => (h (by decide)).elim) ?_
                  clear hK K
                  try simp only [Act.put, List.setIfInBounds_toArray, List.set_cons_zero, List.set_cons_succ]
                  refine Last2.last_done (by kernel_rfl) ?_ _
                  generalize w6.setCell ⟨bm, 0, none⟩ (.slice A6 (m + 1) c6) = w7 at *
                  clear zm6 fm6
                  go_wp2_with fail
                  go_roundw
                  case rel => first | exact ⟨i + 1, m + 1, A6, c6, by omega, by go_num, by omega, Lib.hid (by rw [hM.out, HM.out]), HFP.out⟩ | exact ⟨i + 1, by omega, by go_num, m + 1, by omega, Lib.hid (by rw [hM.out, HM.out]), A6, c6, HFP.out⟩
                  case measure => simp [intOf]; omega
            · obtain rfl : n = i := by omega
              have hlE := Lib.hid (show (prunedE p a n).length = m by rw [pruned_len, HM.out])
              have y4 : wr.cell? ⟨w.heap.size + 1, 0, none⟩ = some (.slice none 0 0) := (W1.out.chg G.out.chg (by omega)).cells 0
              have f4 : wr.frozen? ⟨w.heap.size + 1, 0, none⟩ = false := (W1.out.chg G.out.chg (by omega)).frozen 0
              have bb6 := Lib.hid (bb3.out.trans (G.out.chg.below bb3.out.size (fun b hb h => by omega)))
              clear B1 A2 XE RR
              go_wp2_with fail
              refine bodyPost_ret (v := .tuple #[.agg #[.slice Av m cv], .bool true]) (by simp [results, Try.results41, go_sem, y4]) rfl ?_
              rw [hs.out]
              refine ⟨Av, cv, by simp only [hlE.out], ?_, bb6.out.setCell (p := ⟨w.heap.size + 1, 0, none⟩) (by show w.heap.size ≤ w.heap.size + 1; omega) _⟩
              simp only [hlE.out]
              exact (G.out.own.chg (Chg.set _ ⟨w.heap.size + 1, 0, none⟩ _) (fun b hb _ => by show ¬ b = w.heap.size + 1; omega)).mono (by omega)
end Go.Proofs.Ytkjgibhckcdneaa.ErQ
