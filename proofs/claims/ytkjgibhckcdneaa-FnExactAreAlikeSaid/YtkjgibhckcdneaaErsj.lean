/- spec.l6Classes lays the classes of errors; spec.AreAlike tells whether two are alike. -/
import Derived.Test.YtkjgibhckcdneaaErsi
import Derived.Test.YtkjgibhckcdneaaLast2
namespace Go.Proofs.Ytkjgibhckcdneaa.ErS
set_option linter.unusedVariables false
set_option linter.unusedSimpArgs false
open Go.ChangeShapes Go.WideShapes Go.ChangeAt Go.RowKit
open Mem IntsP ErP ErM ErT ErA ErU ErD ErW

set_option maxRecDepth 100000 in
set_option maxHeartbeats 8000000 in
theorem classes_any (n c : Nat) (A : Option Addr) (p : Er) (hl : p.length = n) (hok : okErr p = true) (w : World) (hr : RdE w w.heap.size A p) :
    Calls Try.prog 60 #[.agg #[.slice A n c]] w (ArrR n (arrS p n) w) := by
  have hn12 : n ≤ 12 := by rw [← hl]; exact ((okErr_iff p).1 hok).2.1
  have HOK := Lib.hid hok
  have hL := Lib.hid hl
  have hRd := Lib.hid hr
  have b1 : ∀ o : Obj, Below w.heap.size w (w.alloc o) := fun o => (Below.refl _ _).alloc (Nat.le_refl _) _
  have B1 := Lib.hid b1
  obtain ⟨i0, hi, hz0, hz1, hz2⟩ := info_parts info3
  have hmk := fun W => run_make_rowN (P := Try.prog) 33 3 i0 _ Try.underlying33 hi hz0 .i64 .i64 n n (Nat.le_refl _) (by rw [hz2]; omega) (by omega) W
  rw [hz1] at hmk
  clear hl hok hr b1 hi hz0 hz2
  go_enter Try.func60, Try.ntmps60
  go_wp2_with fail
  obtain ⟨g, hg⟩ : ∃ g, w.heap.size + 1 = g := ⟨_, rfl⟩
  obtain ⟨w2, hw2⟩ : ∃ w2, (w.alloc (.cells #[.slice A n c] 29)).alloc (.cells (madeCells #[Value.int .i64 0] n) 3) = w2 := ⟨_, rfl⟩
  have hA : Arr w2 g n (arrS p 0) := by rw [← hw2, ← hg]; have := Arr.new (w := w.alloc (.cells #[.slice A n c] 29)) (n := n) (by omega); unfold arrS; rw [hL.out]; simpa using this
  have bb2 : Below w.heap.size w w2 := by rw [← hw2]; exact (B1.out _).alloc (by simp) _
  have z2 : w2.cell? ⟨w.heap.size, 0, none⟩ = some (.slice A n c) := by rw [← hw2]; exact (World.cell?_alloc_lt _ _ ⟨w.heap.size, 0, none⟩ (by simp)).trans (by simp [go_sem])
  have l2 : g < w2.heap.size := by rw [← hw2, ← hg]; simp
  have R2 := Lib.hid (hRd.out.below bb2)
  rw [hw2]
  have HA := Lib.hid hA
  have BB2 := Lib.hid bb2
  have s1 : w.heap.size < g := by omega
  rw [hg]
  clear hw2 hg hA bb2
  go_loopw [4] (fun i wr => ∃ k : Nat, k ≤ n ∧ i = .int .i64 ((n : Int) - 1 - k) ∧ Arr wr g n (arrS p k) ∧ Chg (fun b => b = g) w2 wr) (fun i _ => (intOf i + 1).toNat)
  case atStart => exact ⟨0, Nat.zero_le _, by simp, HA.out, Chg.refl _ _⟩
  case round =>
    obtain ⟨k, hk, rfl, hA, hch⟩ := hrel
    have HA := Lib.hid hA
    have zr : wr.cell? ⟨w.heap.size, 0, none⟩ = some (.slice A n c) := (hch.cell (p := ⟨w.heap.size, 0, none⟩) (by show w.heap.size < w2.heap.size; omega) (by show ¬ w.heap.size = g; omega)).trans z2
    have Rr := Lib.hid (rdE_chg R2.out hch (by omega) (fun b hb => by omega))
    have HC := Lib.hid hch
    have lo2 := hch.size
    clear hA hch
    by_cases hlt : k < n
    · obtain ⟨i, hi⟩ : ∃ i : Nat, i + (k + 1) = n := ⟨n - (k + 1), by omega⟩
      rw [show (n : Int) - 1 - k = i by omega]
      obtain ⟨s, hsx⟩ : ∃ s, p[i]? = some s := ⟨_, List.getElem?_eq_getElem (by rw [hL.out]; omega)⟩
      have HS := Lib.hid hsx
      have hin : i < n := by omega
      obtain ⟨e1, e2⟩ := HA.out.at hin
      have HNX := Lib.hid (arrS_next (e := p) (by rw [hL.out]; exact hi))
      have HI := Lib.hid (show Inv p (arrS p k) (i + 1) by have := arrS_inv HOK.out k (by rw [hL.out]; omega); rw [hL.out, show n - k = i + 1 by omega] at this; exact this)
      have hal : (arrS p k).length = n := by rw [arrS_len, hL.out]
      have HAL := Lib.hid hal
      clear hsx hal
      generalize arrS p k = a at *
      go_wp2_with fail
      obtain ⟨wo, hwo⟩ : ∃ wo, wr.setCell ⟨g, i, none⟩ (.int .i64 i) = wo := ⟨_, rfl⟩
      have hco : Chg (fun b => b = g) wr wo := by rw [← hwo]; exact (Chg.refl _ wr).put ⟨g, i, none⟩ _ (.inr rfl)
      have hAo : Arr wo g n (a.set i (i : Int)) := by rw [← hwo]; exact HA.out.set i (i : Int)
      have HCO := Lib.hid (HC.out.trans hco (fun _ _ h => h))
      have HAo := Lib.hid hAo
      have szo := hco.size
      have Ro := Lib.hid (rdE_chg Rr.out hco (by omega) (fun b hb => by omega))
      have zo : wo.cell? ⟨w.heap.size, 0, none⟩ = some (.slice A n c) := (hco.cell (p := ⟨w.heap.size, 0, none⟩) (by show w.heap.size < wr.heap.size; omega) (by show ¬ w.heap.size = g; omega)).trans zr
      rw [hwo]
      clear hwo hco hAo e1 e2 zr HA HC
      go_loopw [5] (fun j' wr => ∃ (j : Nat) (z : Int), i ≤ j ∧ j < n ∧ j' = .int .i64 j ∧ Arr wr g n (a.set i z) ∧ Chg (fun b => b = g) wo wr ∧ Hid ((z = i ∧ ∀ q, j < q → q < n → ¬ (getI a q = q ∧ keyE p a i = keyE p a q)) ∨ (∃ c : Nat, z = c ∧ i < c ∧ shp p a i = c))) (fun j' _ => (intOf j').toNat)
      case atStart => exact ⟨n - 1, i, by omega, by omega, by congr 1; omega, HAo.out, Chg.refl _ _, Lib.hid (.inl ⟨rfl, fun q h1 h2 => by omega⟩)⟩
      case round =>
        obtain ⟨j, z, hij, hj, rfl, hA3, hbl, HNO⟩ := hrel
        have zr2 : wr.cell? ⟨w.heap.size, 0, none⟩ = some (.slice A n c) := (hbl.cell (p := ⟨w.heap.size, 0, none⟩) (by show w.heap.size < wo.heap.size; omega) (by show ¬ w.heap.size = g; omega)).trans zo
        have R3 := Lib.hid (rdE_chg Ro.out hbl (by omega) (fun b hb => by omega))
        have A3 := Lib.hid hA3
        have HBL := Lib.hid hbl
        have szb := hbl.size
        have hai : i < a.length := by rw [HAL.out]; exact hin
        obtain ⟨e1, e2⟩ := hA3.at hin
        rw [getI_set hai] at e1
        clear hbl hA3
        by_cases hfo : z = i
        case neg =>
          have E5 : Hid (arrS p (k + 1) = a.set i z) := Lib.hid (by
            rcases HNO.out with h | ⟨cc, h1, h2, h3⟩
            · exact absurd h.1 hfo
            · rw [HNX.out, h3, h1])
          have hb : (z == (i : Int)) = false := by rw [beq_eq_false_iff_ne]; exact hfo
          clear hfo
          by_cases hji : i < j
          all_goals
            go_wp2_with fail
            go_roundw
            case rel => exact ⟨k + 1, by omega, by go_num, by rw [E5.out]; exact A3.out, HCO.out.trans HBL.out (fun _ _ h => h)⟩
            case measure => simp [intOf]
        case pos =>
        have HN2 := Lib.hid (show ∀ q, j < q → q < n → ¬ (getI a q = q ∧ keyE p a i = keyE p a q) from by
          rcases HNO.out with h | ⟨cc, h1, h2, h3⟩
          · exact h.2
          · omega)
        subst hfo
        clear HNO
        by_cases hji : i < j
        case neg =>
          obtain rfl : j = i := by omega
          have E5 : Hid (arrS p (k + 1) = a.set j (j : Int)) := Lib.hid (by rw [HNX.out, shp_nocand HI.out (fun q h1 h2 => HN2.out q h1 (by rw [← hL.out]; exact h2))])
          go_wp2_with fail
          go_roundw
          case rel => exact ⟨k + 1, by omega, by go_num, by rw [E5.out]; exact A3.out, HCO.out.trans HBL.out (fun _ _ h => h)⟩
          case measure => simp [intOf]
        case pos =>
        obtain ⟨t, htx⟩ : ∃ s, p[j]? = some s := ⟨_, List.getElem?_eq_getElem (by rw [hL.out]; exact hj)⟩
        obtain ⟨ad, Ai, ci, rfl, hab, c0, c1, c2, c3⟩ := R3.out i _ HS.out
        obtain ⟨ad', Aj, cj, e0, _, d0, d1, d2, d3⟩ := R3.out j _ htx
        obtain rfl : ad = ad' := by simpa using e0
        have HTX := Lib.hid htx
        have h12 := ok_many HOK.out HS.out
        have h12' := ok_many HOK.out htx
        have C3 := Lib.hid c3
        have D3 := Lib.hid d3
        clear htx e0 c3 d3
        go_wp2_with fail
        have S0 : (fun V : World => V.cell? ⟨w.heap.size, 0, none⟩ = some (.slice (some ad) n c) ∧ V.cell? (ad.add (i * 3)) = some (.int .i64 s.1) ∧ V.cell? ⟨(ad.add (i * 3)).block, (ad.add (i * 3)).off + 1, none⟩ = some (.int .i64 s.2.1) ∧ V.cell? ⟨(ad.add (i * 3)).block, (ad.add (i * 3)).off + 2, none⟩ = some (.slice Ai s.2.2.length ci) ∧ V.cell? (ad.add (j * 3)) = some (.int .i64 t.1) ∧ V.cell? ⟨(ad.add (j * 3)).block, (ad.add (j * 3)).off + 1, none⟩ = some (.int .i64 t.2.1) ∧ V.cell? ⟨(ad.add (j * 3)).block, (ad.add (j * 3)).off + 2, none⟩ = some (.slice Aj t.2.2.length cj)) wr.drew := ⟨zr2, c0, c1, c2, d0, d1, d2⟩
        have S1 := Lib.hid (show ∀ V, Below wr.drew.heap.size wr.drew V → (fun V : World => V.cell? ⟨w.heap.size, 0, none⟩ = some (.slice (some ad) n c) ∧ V.cell? (ad.add (i * 3)) = some (.int .i64 s.1) ∧ V.cell? ⟨(ad.add (i * 3)).block, (ad.add (i * 3)).off + 1, none⟩ = some (.int .i64 s.2.1) ∧ V.cell? ⟨(ad.add (i * 3)).block, (ad.add (i * 3)).off + 2, none⟩ = some (.slice Ai s.2.2.length ci) ∧ V.cell? (ad.add (j * 3)) = some (.int .i64 t.1) ∧ V.cell? ⟨(ad.add (j * 3)).block, (ad.add (j * 3)).off + 1, none⟩ = some (.int .i64 t.2.1) ∧ V.cell? ⟨(ad.add (j * 3)).block, (ad.add (j * 3)).off + 2, none⟩ = some (.slice Aj t.2.2.length cj)) V from fun V b => ⟨(b.cell (p := ⟨w.heap.size, 0, none⟩) (by show w.heap.size < wr.heap.size; omega)).trans zr2, (b.cell (by rw [block_of_add]; show ad.block < wr.heap.size; omega)).trans c0, (b.cell (by show (ad.add _).block < wr.heap.size; rw [block_of_add]; omega)).trans c1, (b.cell (by show (ad.add _).block < wr.heap.size; rw [block_of_add]; omega)).trans c2, (b.cell (by rw [block_of_add]; show ad.block < wr.heap.size; omega)).trans d0, (b.cell (by show (ad.add _).block < wr.heap.size; rw [block_of_add]; omega)).trans d1, (b.cell (by show (ad.add _).block < wr.heap.size; rw [block_of_add]; omega)).trans d2⟩)
        have hD : Chg (fun b => b = g) wo wr.drew := chg_drew HBL.out
        have HD := Lib.hid hD
        have AD := Lib.hid (A3.out.chg (chg_drew (Chg.refl (fun _ => False) _)) (fun h => h))
        have CD := Lib.hid (show RdI wr.drew w.heap.size Ai s.2.2 from C3.out.keep (fun _ _ => rfl))
        have DD := Lib.hid (show RdI wr.drew w.heap.size Aj t.2.2 from D3.out.keep (fun _ _ => rfl))
        have szd : wo.heap.size ≤ wr.drew.heap.size := szb
        clear zr2 c0 c1 c2 d0 d1 d2 hD HBL A3 C3 D3 e1 e2
        refine Last2.region_last [13] (fun V : World => V.cell? ⟨w.heap.size, 0, none⟩ = some (.slice (some ad) n c) ∧ V.cell? (ad.add (i * 3)) = some (.int .i64 s.1) ∧ V.cell? ⟨(ad.add (i * 3)).block, (ad.add (i * 3)).off + 1, none⟩ = some (.int .i64 s.2.1) ∧ V.cell? ⟨(ad.add (i * 3)).block, (ad.add (i * 3)).off + 2, none⟩ = some (.slice Ai s.2.2.length ci) ∧ V.cell? (ad.add (j * 3)) = some (.int .i64 t.1) ∧ V.cell? ⟨(ad.add (j * 3)).block, (ad.add (j * 3)).off + 1, none⟩ = some (.int .i64 t.2.1) ∧ V.cell? ⟨(ad.add (j * 3)).block, (ad.add (j * 3)).off + 2, none⟩ = some (.slice Aj t.2.2.length cj)) (by kernel_rfl) ?_
        refine Last2.last_take (i := 0) (d := some 41) (v := .pointer (some ⟨w.heap.size, 0, none⟩)) rfl rfl (by kernel_rfl) (by kernel_rfl) (by kernel_rfl) (fun _ _ _ h => h) rfl (by kernel_rfl) (by kernel_rfl) rfl ?_ S0 ?_
        · (intro V hV; (try dsimp only at hV); go_simp; try with_reducible rfl)
        simp only [Act.put, List.setIfInBounds_toArray, List.set_cons_zero, List.set_cons_succ]
        refine Last2.last_take (i := 1) (d := some 42) (v := .slice (some ad) n c) rfl rfl (by kernel_rfl) (by kernel_rfl) (by kernel_rfl) (fun _ _ _ h => h) rfl (by kernel_rfl) (by kernel_rfl) rfl ?_ S0 ?_
        · (intro V hV; (try dsimp only at hV); go_simp; try with_reducible rfl)
        simp only [Act.put, List.setIfInBounds_toArray, List.set_cons_zero, List.set_cons_succ]
        refine Last2.last_take (i := 2) (d := some 43) (v := .int .i64 (i : Int)) rfl rfl (by kernel_rfl) (by kernel_rfl) (by kernel_rfl) (fun _ _ _ h => h) rfl (by kernel_rfl) (by kernel_rfl) rfl ?_ S0 ?_
        · (intro V hV; (try dsimp only at hV); go_simp; try with_reducible rfl)
        simp only [Act.put, List.setIfInBounds_toArray, List.set_cons_zero, List.set_cons_succ]
        refine Last2.last_take (i := 3) (d := some 44) (v := .pointer (some (ad.add (i * 3)))) rfl rfl (by kernel_rfl) (by kernel_rfl) (by kernel_rfl) (fun _ _ _ h => h) rfl (by kernel_rfl) (by kernel_rfl) rfl ?_ S0 ?_
        · (intro V hV; (try dsimp only at hV); go_simp; try with_reducible rfl)
        simp only [Act.put, List.setIfInBounds_toArray, List.set_cons_zero, List.set_cons_succ]
        refine Last2.last_take (i := 4) (d := some 45) (v := .agg #[.int .i64 s.1, .int .i64 s.2.1, .slice Ai s.2.2.length ci]) rfl rfl (by kernel_rfl) (by kernel_rfl) (by kernel_rfl) (fun _ _ _ h => h) rfl (by kernel_rfl) (by kernel_rfl) rfl ?_ S0 ?_
        · (intro V hV; (try dsimp only at hV); go_simp; try with_reducible rfl)
        simp only [Act.put, List.setIfInBounds_toArray, List.set_cons_zero, List.set_cons_succ]
        refine Last2.last_take (i := 5) (d := some 46) (v := .pointer (some ⟨w.heap.size, 0, none⟩)) rfl rfl (by kernel_rfl) (by kernel_rfl) (by kernel_rfl) (fun _ _ _ h => h) rfl (by kernel_rfl) (by kernel_rfl) rfl ?_ S0 ?_
        · (intro V hV; (try dsimp only at hV); go_simp; try with_reducible rfl)
        simp only [Act.put, List.setIfInBounds_toArray, List.set_cons_zero, List.set_cons_succ]
        refine Last2.last_take (i := 6) (d := some 47) (v := .slice (some ad) n c) rfl rfl (by kernel_rfl) (by kernel_rfl) (by kernel_rfl) (fun _ _ _ h => h) rfl (by kernel_rfl) (by kernel_rfl) rfl ?_ S0 ?_
        · (intro V hV; (try dsimp only at hV); go_simp; try with_reducible rfl)
        simp only [Act.put, List.setIfInBounds_toArray, List.set_cons_zero, List.set_cons_succ]
        refine Last2.last_take (i := 7) (d := some 48) (v := .int .i64 (j : Int)) rfl rfl (by kernel_rfl) (by kernel_rfl) (by kernel_rfl) (fun _ _ _ h => h) rfl (by kernel_rfl) (by kernel_rfl) rfl ?_ S0 ?_
        · (intro V hV; (try dsimp only at hV); go_simp; try with_reducible rfl)
        simp only [Act.put, List.setIfInBounds_toArray, List.set_cons_zero, List.set_cons_succ]
        refine Last2.last_take (i := 8) (d := some 49) (v := .pointer (some (ad.add (j * 3)))) rfl rfl (by kernel_rfl) (by kernel_rfl) (by kernel_rfl) (fun _ _ _ h => h) rfl (by kernel_rfl) (by kernel_rfl) rfl ?_ S0 ?_
        · (intro V hV; (try dsimp only at hV); go_simp; try with_reducible rfl)
        simp only [Act.put, List.setIfInBounds_toArray, List.set_cons_zero, List.set_cons_succ]
        refine Last2.last_take (i := 9) (d := some 50) (v := .agg #[.int .i64 t.1, .int .i64 t.2.1, .slice Aj t.2.2.length cj]) rfl rfl (by kernel_rfl) (by kernel_rfl) (by kernel_rfl) (fun _ _ _ h => h) rfl (by kernel_rfl) (by kernel_rfl) rfl ?_ S0 ?_
        · (intro V hV; (try dsimp only at hV); go_simp; try with_reducible rfl)
        simp only [Act.put, List.setIfInBounds_toArray, List.set_cons_zero, List.set_cons_succ]
        generalize wr.drew = U at *
        refine Last2.last_two (i := 10) (j := 11) (oi := { dst := some 6, op := .alloc 55, type := _, pos := _, after := _, guard := none }) (oj := { dst := some 7, op := .alloc 55, type := _, pos := _, after := _, guard := none }) (by kernel_rfl) rfl rfl rfl rfl (fun K hK => ?_) (fun K hK => ?_)
        · go_simp
          have b1 : Below U.heap.size U (U.alloc (.cells #[.int .i64 0, .int .i64 0, .slice none 0 0] 55)) := (Below.refl _ _).alloc (Nat.le_refl _) _
          refine hK.out _ _ (fun _ => S1.out _ b1) ?_
          clear hK K
          try simp only [Act.put, List.setIfInBounds_toArray, List.set_cons_zero, List.set_cons_succ]
          refine Last2.last_one (i := 11) (o := { dst := some 7, op := .alloc 55, type := _, pos := _, after := _, guard := none }) (by kernel_rfl) rfl rfl (fun K hK => ?_)
          go_simp
          have b2 : Below U.heap.size U ((U.alloc (.cells #[.int .i64 0, .int .i64 0, .slice none 0 0] 55)).alloc (.cells #[.int .i64 0, .int .i64 0, .slice none 0 0] 55)) := b1.alloc b1.size _
          refine hK.out _ _ (fun _ => S1.out _ b2) ?_
          clear hK K
          try simp only [Act.put, List.setIfInBounds_toArray, List.set_cons_zero, List.set_cons_succ]
          have xa : Blk ((U.alloc (.cells #[.int .i64 0, .int .i64 0, .slice none 0 0] 55)).alloc (.cells #[.int .i64 0, .int .i64 0, .slice none 0 0] 55)) U.heap.size 55 #[.int .i64 0, .int .i64 0, .slice none 0 0] := heap2_0 _ _ _
          have xb : Blk ((U.alloc (.cells #[.int .i64 0, .int .i64 0, .slice none 0 0] 55)).alloc (.cells #[.int .i64 0, .int .i64 0, .slice none 0 0] 55)) (U.heap.size + 1) 55 #[.int .i64 0, .int .i64 0, .slice none 0 0] := heap2_1 _ _ _
          obtain ⟨b6, hb6⟩ : ∃ b6, U.heap.size = b6 := ⟨_, rfl⟩
          obtain ⟨b7, hb7⟩ : ∃ b7, U.heap.size + 1 = b7 := ⟨_, rfl⟩
          have l6 : U.heap.size ≤ b6 := by omega
          have l7 : U.heap.size ≤ b7 := by omega
          have l67 : b6 ≠ b7 := by omega
          have x6 : Blk ((U.alloc (.cells #[.int .i64 0, .int .i64 0, .slice none 0 0] 55)).alloc (.cells #[.int .i64 0, .int .i64 0, .slice none 0 0] 55)) b6 55 #[.int .i64 0, .int .i64 0, .slice none 0 0] := by rw [← hb6]; exact xa
          have x7 : Blk ((U.alloc (.cells #[.int .i64 0, .int .i64 0, .slice none 0 0] 55)).alloc (.cells #[.int .i64 0, .int .i64 0, .slice none 0 0] 55)) b7 55 #[.int .i64 0, .int .i64 0, .slice none 0 0] := by rw [← hb7]; exact xb
          simp only [hb7]
          simp only [hb6]
          clear xa xb b1 hb6 hb7
          generalize (U.alloc (.cells #[.int .i64 0, .int .i64 0, .slice none 0 0] 55)).alloc (.cells #[.int .i64 0, .int .i64 0, .slice none 0 0] 55) = V at *
          have cc6 : ∀ o, V.cell? ⟨b6, o, none⟩ = (#[.int .i64 0, .int .i64 0, .slice none 0 0] : Array Value)[o]? := x6.cells
          have ff6 := x6.frozen
          have X6 := Lib.hid x6
          have X7 := Lib.hid x7
          have B2 := Lib.hid b2
          clear x6 x7 b2
          have c60 : V.cell? ⟨b6, 0, none⟩ = some (.int .i64 0) := cc6 0
          have c61 : V.cell? ⟨b6, 1, none⟩ = some (.int .i64 0) := cc6 1
          have c62 : V.cell? ⟨b6, 2, none⟩ = some (.slice none 0 0) := cc6 2
          clear cc6
          refine Last2.last_one (i := 12) (o := { dst := none, op := .store 55 (.tmp 6) (.tmp 45), type := _, pos := _, after := _, guard := none }) (by kernel_rfl) rfl rfl (fun K hK => ?_)
          go_simp
          obtain ⟨V2, hV2⟩ : ∃ V2, ((V.setCell ⟨b6, 0, none⟩ (.int .i64 s.1)).setCell ⟨b6, 1, none⟩ (.int .i64 s.2.1)).setCell ⟨b6, 2, none⟩ (.slice Ai s.2.2.length ci) = V2 := ⟨_, rfl⟩
          have b3 : Below U.heap.size U V2 := by rw [← hV2]; exact ((B2.out.setCell (p := ⟨b6, 0, none⟩) l6 _).setCell (p := ⟨b6, 1, none⟩) l6 _).setCell (p := ⟨b6, 2, none⟩) l6 _
          have x6 : Blk V2 b6 55 #[.int .i64 s.1, .int .i64 s.2.1, .slice Ai s.2.2.length ci] := by
            rw [← hV2]
            have h := ((X6.out.put 0 (.int .i64 s.1)).put 1 (.int .i64 s.2.1)).put 2 (.slice Ai s.2.2.length ci)
            simpa only [List.setIfInBounds_toArray, List.set_cons_zero, List.set_cons_succ] using h
          have x7 : Blk V2 b7 55 #[.int .i64 0, .int .i64 0, .slice none 0 0] := by
            rw [← hV2]; exact ((X7.out.far _ _ (fun e => l67 e.symm)).far _ _ (fun e => l67 e.symm)).far _ _ (fun e => l67 e.symm)
          rw [hV2]
          refine hK.out _ _ (fun _ => S1.out _ b3) ?_
          clear hK K hV2 c60 c61 c62 ff6 X6 X7 B2
          try simp only [Act.put, List.setIfInBounds_toArray, List.set_cons_zero, List.set_cons_succ]
          have cc7 : ∀ o, V2.cell? ⟨b7, o, none⟩ = (#[.int .i64 0, .int .i64 0, .slice none 0 0] : Array Value)[o]? := x7.cells
          have ff7 := x7.frozen
          have X6 := Lib.hid x6
          have X7 := Lib.hid x7
          have B3 := Lib.hid b3
          have c70 : V2.cell? ⟨b7, 0, none⟩ = some (.int .i64 0) := cc7 0
          have c71 : V2.cell? ⟨b7, 1, none⟩ = some (.int .i64 0) := cc7 1
          have c72 : V2.cell? ⟨b7, 2, none⟩ = some (.slice none 0 0) := cc7 2
          clear cc7 x6 x7 b3
          refine Last2.last_one (i := 13) (o := { dst := none, op := .store 55 (.tmp 7) (.tmp 50), type := _, pos := _, after := _, guard := none }) (by kernel_rfl) rfl rfl (fun K hK => ?_)
          go_simp
          obtain ⟨V3, hV3⟩ : ∃ V3, ((V2.setCell ⟨b7, 0, none⟩ (.int .i64 t.1)).setCell ⟨b7, 1, none⟩ (.int .i64 t.2.1)).setCell ⟨b7, 2, none⟩ (.slice Aj t.2.2.length cj) = V3 := ⟨_, rfl⟩
          have b4 : Below U.heap.size U V3 := by rw [← hV3]; exact ((B3.out.setCell (p := ⟨b7, 0, none⟩) l7 _).setCell (p := ⟨b7, 1, none⟩) l7 _).setCell (p := ⟨b7, 2, none⟩) l7 _
          have x7 : Blk V3 b7 55 #[.int .i64 t.1, .int .i64 t.2.1, .slice Aj t.2.2.length cj] := by
            rw [← hV3]
            have h := ((X7.out.put 0 (.int .i64 t.1)).put 1 (.int .i64 t.2.1)).put 2 (.slice Aj t.2.2.length cj)
            simpa only [List.setIfInBounds_toArray, List.set_cons_zero, List.set_cons_succ] using h
          have x6 : Blk V3 b6 55 #[.int .i64 s.1, .int .i64 s.2.1, .slice Ai s.2.2.length ci] := by
            rw [← hV3]; exact ((X6.out.far _ _ (fun e => l67 e)).far _ _ (fun e => l67 e)).far _ _ (fun e => l67 e)
          rw [hV3]
          refine hK.out _ _ (fun h => (h (by decide)).elim) ?_
          clear hK K hV3 c70 c71 c72 ff7 X6 X7 B3
          try simp only [Act.put, List.setIfInBounds_toArray, List.set_cons_zero, List.set_cons_succ]
          refine Last2.last_done (by kernel_rfl) ?_ _
          have HD4 := Lib.hid (HD.out.trans (Chg.of_below (C := fun _ => False) b4) (fun _ _ h => h.elim))
          have A4 := Lib.hid (AD.out.chg (Chg.of_below (C := fun _ => False) b4) (fun h => h))
          have s4 := b4.size
          have CI := Lib.hid (CD.out.below (b4.mono (by omega)))
          have CJ := Lib.hid (DD.out.below (b4.mono (by omega)))
          have z4 := (S1.out _ b4).1
          obtain ⟨y0, y1, y2⟩ : V3.cell? ⟨b6, 0, none⟩ = some (.int .i64 s.1) ∧ V3.cell? ⟨b6, 1, none⟩ = some (.int .i64 s.2.1) ∧ V3.cell? ⟨b6, 2, none⟩ = some (.slice Ai s.2.2.length ci) := ⟨x6.cells 0, x6.cells 1, x6.cells 2⟩
          obtain ⟨v0, v1, v2⟩ : V3.cell? ⟨b7, 0, none⟩ = some (.int .i64 t.1) ∧ V3.cell? ⟨b7, 1, none⟩ = some (.int .i64 t.2.1) ∧ V3.cell? ⟨b7, 2, none⟩ = some (.slice Aj t.2.2.length cj) := ⟨x7.cells 0, x7.cells 1, x7.cells 2⟩
          obtain ⟨q1, q2⟩ := A4.out.at hj
          rw [getI_set_ne (by omega)] at q1
          have hsz6 : b6 < V3.heap.size := x6.lt
          have hsz7 : b7 < V3.heap.size := x7.lt
          have X6 := Lib.hid x6
          have X7 := Lib.hid x7
          clear x6 x7 b4 HD AD CD DD S1
          have HK := Lib.hid (key_eq (a := a) HS.out HTX.out)
          have HSK := Lib.hid (same_key (a := a) (z := (i : Int)) HOK.out HS.out HTX.out hji)
          obtain ⟨zj, hzj⟩ : ∃ zj, getI a j = zj := ⟨_, rfl⟩
          have HZJ := Lib.hid hzj
          rw [hzj] at q1
          clear hzj
          by_cases h1 : zj = j
          case neg =>
            have HNC := Lib.hid (show ¬ (getI a j = j ∧ keyE p a i = keyE p a j) from fun h => h1 (HZJ.out.symm.trans h.1))
            have hb1 : (zj == (j : Int)) = false := by rw [beq_eq_false_iff_ne]; exact h1
            clear h1
            by_cases hl0 : 0 < s.2.2.length
            all_goals
              go_wp2_with fail
              go_loopw [8, 9] (fun v i wr => v = .bool false ∧ i = .int .i64 0 ∧ wr = V3) (fun _ _ _ => 0)
              case atStart => exact ⟨rfl, rfl, rfl⟩
              case round =>
                obtain ⟨rfl, rfl, rfl⟩ := hrel
                go_wp2_with fail
                go_roundw
                case rel =>
                  have A5 := A4.out
                  have C5 := HD4.out
                  exact ⟨j - 1, (i : Int), by omega, by omega, by congr 1; omega, A5, C5, Lib.hid (.inl ⟨rfl, fun q h1 h2 => by
                    rcases Nat.lt_or_ge j q with h | h
                    · exact HN2.out q h h2
                    · obtain rfl : q = j := by omega
                      exact HNC.out⟩)⟩
                case measure => simp [intOf]; omega
          case pos =>
          subst h1
          by_cases h2 : s.1 = t.1
          case neg =>
            have HNC := Lib.hid (show ¬ (getI a j = j ∧ keyE p a i = keyE p a j) from fun h => h2 (HK.out.1 h.2).1)
            have hb1 : (s.1 == t.1) = false := by rw [beq_eq_false_iff_ne]; exact h2
            clear h2
            by_cases hl0 : 0 < s.2.2.length
            all_goals
              go_wp2_with fail
              go_loopw [8, 9] (fun v i wr => v = .bool false ∧ i = .int .i64 0 ∧ wr = V3) (fun _ _ _ => 0)
              case atStart => exact ⟨rfl, rfl, rfl⟩
              case round =>
                obtain ⟨rfl, rfl, rfl⟩ := hrel
                go_wp2_with fail
                go_roundw
                case rel =>
                  have A5 := A4.out
                  have C5 := HD4.out
                  exact ⟨j - 1, (i : Int), by omega, by omega, by congr 1; omega, A5, C5, Lib.hid (.inl ⟨rfl, fun q h1 h2 => by
                    rcases Nat.lt_or_ge j q with h | h
                    · exact HN2.out q h h2
                    · obtain rfl : q = j := by omega
                      exact HNC.out⟩)⟩
                case measure => simp [intOf]; omega
          case pos =>
          by_cases h3 : s.2.1 = t.2.1
          case neg =>
            have HNC := Lib.hid (show ¬ (getI a j = j ∧ keyE p a i = keyE p a j) from fun h => h3 (HK.out.1 h.2).2.1)
            have hb1 : (s.2.1 == t.2.1) = false := by rw [beq_eq_false_iff_ne]; exact h3
            have hb2 : (s.1 == t.1) = true := by rw [beq_iff_eq]; exact h2
            clear h2 h3
            by_cases hl0 : 0 < s.2.2.length
            all_goals
              go_wp2_with fail
              go_loopw [8, 9] (fun v i wr => v = .bool false ∧ i = .int .i64 0 ∧ wr = V3) (fun _ _ _ => 0)
              case atStart => exact ⟨rfl, rfl, rfl⟩
              case round =>
                obtain ⟨rfl, rfl, rfl⟩ := hrel
                go_wp2_with fail
                go_roundw
                case rel =>
                  have A5 := A4.out
                  have C5 := HD4.out
                  exact ⟨j - 1, (i : Int), by omega, by omega, by congr 1; omega, A5, C5, Lib.hid (.inl ⟨rfl, fun q h1 h2 => by
                    rcases Nat.lt_or_ge j q with h | h
                    · exact HN2.out q h h2
                    · obtain rfl : q = j := by omega
                      exact HNC.out⟩)⟩
                case measure => simp [intOf]; omega
          case pos =>
          by_cases h4 : s.2.2.length = t.2.2.length
          case neg =>
            have HNC := Lib.hid (show ¬ (getI a j = j ∧ keyE p a i = keyE p a j) from fun h => h4 (by have := congrArg List.length (HK.out.1 h.2).2.2; simpa using this))
            have hb1 : ((s.2.2.length : Int) == (t.2.2.length : Int)) = false := by rw [beq_eq_false_iff_ne]; omega
            have hb2 : (s.1 == t.1) = true := by rw [beq_iff_eq]; exact h2
            have hb3 : (s.2.1 == t.2.1) = true := by rw [beq_iff_eq]; exact h3
            clear h2 h3 h4
            by_cases hl0 : 0 < s.2.2.length
            all_goals
              go_wp2_with fail
              go_loopw [8, 9] (fun v i wr => v = .bool false ∧ i = .int .i64 0 ∧ wr = V3) (fun _ _ _ => 0)
              case atStart => exact ⟨rfl, rfl, rfl⟩
              case round =>
                obtain ⟨rfl, rfl, rfl⟩ := hrel
                go_wp2_with fail
                go_roundw
                case rel =>
                  have A5 := A4.out
                  have C5 := HD4.out
                  exact ⟨j - 1, (i : Int), by omega, by omega, by congr 1; omega, A5, C5, Lib.hid (.inl ⟨rfl, fun q h1 h2 => by
                    rcases Nat.lt_or_ge j q with h | h
                    · exact HN2.out q h h2
                    · obtain rfl : q = j := by omega
                      exact HNC.out⟩)⟩
                case measure => simp [intOf]; omega
          case pos =>
            obtain ⟨m, hm⟩ : ∃ m, t.2.2.length = m := ⟨_, rfl⟩
            have HMt := Lib.hid hm
            have HMs := Lib.hid (h4.trans hm)
            have H2 := Lib.hid h2
            have H3 := Lib.hid h3
            have hb2 : (s.1 == t.1) = true := by rw [beq_iff_eq]; exact h2
            have hb3 : (s.2.1 == t.2.1) = true := by rw [beq_iff_eq]; exact h3
            rw [HMs.out] at y2 h12
            rw [hm] at v2 h12'
            have PS := Lib.hid (parts_in HOK.out hL.out HS.out)
            have PT := Lib.hid (parts_in HOK.out hL.out HTX.out)
            have PS2 := Lib.hid (fun (q : Nat) (z : Int) (hz : s.2.2[q]? = some z) => ok_part HOK.out HS.out hz)
            have PT2 := Lib.hid (fun (q : Nat) (z : Int) (hz : t.2.2[q]? = some z) => ok_part HOK.out HTX.out hz)
            clear h2 h3 h4 hm
            go_wp2_with fail
            go_loopw [8, 9] (fun v i' wr => ∃ (q : Nat) (bq : Bool), q ≤ m ∧ i' = .int .i64 q ∧ v = .bool bq ∧ Below V3.heap.size V3 wr ∧ Hid (bq = true → mapG (a.set i (i : Int)) (s.2.2.take q) = mapG (a.set i (i : Int)) (t.2.2.take q)) ∧ Hid (bq = false → mapG (a.set i (i : Int)) s.2.2 ≠ mapG (a.set i (i : Int)) t.2.2)) (fun _ i' _ => m - (intOf i').toNat)
            case atStart => exact ⟨0, true, Nat.zero_le _, rfl, rfl, Below.refl _ _, Lib.hid (fun _ => rfl), Lib.hid (fun h => by cases h)⟩
            case round =>
              obtain ⟨q, bq, hq, rfl, rfl, hb, HQ, HQ'⟩ := hrel
              have BV := Lib.hid hb
              have A5 := A4.out.chg (Chg.of_below (C := fun _ => False) hb) (fun h => h)
              have C5 := HD4.out.trans (Chg.of_below (C := fun _ => False) hb) (fun _ _ h => h.elim)
              have HA5 := Lib.hid A5
              have HC5 := Lib.hid C5
              have y2r : wr.cell? ⟨b6, 2, none⟩ = some (.slice Ai m ci) := (hb.cell (p := ⟨b6, 2, none⟩) hsz6).trans y2
              have v2r : wr.cell? ⟨b7, 2, none⟩ = some (.slice Aj m cj) := (hb.cell (p := ⟨b7, 2, none⟩) hsz7).trans v2
              obtain ⟨qi1, qi2⟩ := A5.at hin
              rw [getI_set hai] at qi1
              have CIr := Lib.hid (CI.out.below (hb.mono (by omega)))
              have CJr := Lib.hid (CJ.out.below (hb.mono (by omega)))
              have szv := hb.size
              clear hb A5 C5 q1 q2 y2 v2 z4 y0 y1 v0 v1
              cases bq with
              | false =>
                have HNC := Lib.hid (show ¬ (getI a j = j ∧ keyE p a i = keyE p a j) from fun h => HQ'.out rfl (by
                  have h5 := HSK.out
                  rw [decide_eq_true h.2] at h5
                  exact (of_decide_eq_true h5).2.2))
                by_cases hqm : q < m
                all_goals
                  go_wp2_with fail
                  go_roundw
                  case rel =>
                    have A5 := HA5.out
                    have C5 := HC5.out
                    exact ⟨j - 1, (i : Int), by omega, by omega, by congr 1; omega, A5, C5, Lib.hid (.inl ⟨rfl, fun q h1 h2 => by
                      rcases Nat.lt_or_ge j q with h | h
                      · exact HN2.out q h h2
                      · obtain rfl : q = j := by omega
                        exact HNC.out⟩)⟩
                  case measure => simp [intOf]; omega
              | true =>
                by_cases hqm : q < m
                · obtain ⟨x, hx⟩ : ∃ z, s.2.2[q]? = some z := ⟨_, List.getElem?_eq_getElem (by rw [HMs.out]; exact hqm)⟩
                  obtain ⟨y, hy⟩ : ∃ z, t.2.2[q]? = some z := ⟨_, List.getElem?_eq_getElem (by rw [HMt.out]; exact hqm)⟩
                  obtain ⟨qx, rfl, hqx⟩ := PS.out q x hx
                  obtain ⟨qy, rfl, hqy⟩ := PT.out q y hy
                  obtain ⟨az, haz, _, f0⟩ := CIr.out q _ hx
                  obtain ⟨az', haz', _, f0'⟩ := CJr.out q _ hy
                  obtain ⟨g1, g2⟩ := HA5.out.at hqx
                  obtain ⟨g3, g4⟩ := HA5.out.at hqy
                  have hS : mapG (a.set i (i : Int)) (s.2.2.take (q + 1)) = mapG (a.set i (i : Int)) (s.2.2.take q) ++ [getI (a.set i (i : Int)) qx] := by unfold mapG; rw [List.take_add_one, hx]; simp
                  have hS' : mapG (a.set i (i : Int)) (t.2.2.take (q + 1)) = mapG (a.set i (i : Int)) (t.2.2.take q) ++ [getI (a.set i (i : Int)) qy] := by unfold mapG; rw [List.take_add_one, hy]; simp
                  have HN1 : Hid ((getI (a.set i (i : Int)) qx == getI (a.set i (i : Int)) qy) = true → mapG (a.set i (i : Int)) (s.2.2.take (q + 1)) = mapG (a.set i (i : Int)) (t.2.2.take (q + 1))) := Lib.hid (fun h => by rw [hS, hS', HQ.out rfl, beq_iff_eq.1 h])
                  have HN3 : Hid ((getI (a.set i (i : Int)) qx == getI (a.set i (i : Int)) qy) = false → mapG (a.set i (i : Int)) s.2.2 ≠ mapG (a.set i (i : Int)) t.2.2) := Lib.hid (fun h h5 => by
                    have h6 := congrArg (fun l => l[q]?) h5
                    unfold mapG at h6
                    simp only [List.getElem?_map, hx, hy, Option.map_some, Int.toNat_natCast, Option.some.injEq] at h6
                    exact (beq_eq_false_iff_ne.1 h) h6)
                  rw [haz] at y2r
                  rw [haz'] at v2r
                  clear hx hy hS hS' haz haz'
                  generalize getI (a.set i (i : Int)) qx = vx at *
                  generalize getI (a.set i (i : Int)) qy = vy at *
                  go_wp2_with fail
                  refine wp_region_still_tail 17 (by kernel_rfl) (by kernel_rfl) ?_
                  simp only [List.take_succ_cons, List.take_zero, List.drop_succ_cons, List.drop_zero]
                  change wpStill _ _ wr.drew _ _ _
                  have y2' : wr.drew.cell? ⟨b6, 2, none⟩ = some (.slice (some az) m ci) := y2r
                  have v2' : wr.drew.cell? ⟨b7, 2, none⟩ = some (.slice (some az') m cj) := v2r
                  have f0r : wr.drew.cell? (az.add q) = some (.int .i64 (qx : Int)) := f0
                  have f0r' : wr.drew.cell? (az'.add q) = some (.int .i64 (qy : Int)) := f0'
                  have g1' : wr.drew.cell? ⟨g, qx, none⟩ = some (.int .i64 vx) := g1
                  have g3' : wr.drew.cell? ⟨g, qy, none⟩ = some (.int .i64 vy) := g3
                  repeat still_step
                  refine wpStill_nil ?_
                  change wpList _ _ _ _ _ wr.drew
                  have BD := Lib.hid (BV.out.drew)
                  clear y2r v2r y2' v2' f0 f0' f0r f0r' g1 g3 g1' g3' g2 g4 qi1 qi2
                  generalize wr.drew = w9 at *
                  generalize (vx == vy) = bn at *
                  go_wp2_with fail
                  go_roundw
                  case rel => exact ⟨q + 1, bn, by omega, by go_num, rfl, BD.out, HN1, HN3⟩
                  case measure => simp [intOf]; omega
                · obtain rfl : q = m := by omega
                  have HF := Lib.hid (show shp p a i = (j : Int) from by
                    have h5 : mapG (a.set i (i : Int)) s.2.2 = mapG (a.set i (i : Int)) t.2.2 := by
                      have := HQ.out rfl
                      rwa [List.take_of_length_le (by rw [HMs.out]; exact Nat.le_refl _), List.take_of_length_le (by rw [HMt.out]; exact Nat.le_refl _)] at this
                    have h6 := HSK.out
                    rw [show sameD s.1 t.1 s.2.1 t.2.1 (mapG (a.set i (i : Int)) s.2.2) (mapG (a.set i (i : Int)) t.2.2) = true from decide_eq_true ⟨H2.out, H3.out, h5⟩] at h6
                    exact shp_cand HI.out hji (by rw [hL.out]; exact hj) (of_decide_eq_true h6.symm) HZJ.out)
                  go_wp2_with fail
                  go_roundw
                  case rel =>
                    have A6 := HA5.out.set i (j : Int)
                    rw [List.set_set] at A6
                    exact ⟨j - 1, (j : Int), by omega, by omega, by congr 1; omega, A6, HC5.out.put ⟨g, i, none⟩ _ (.inr rfl), Lib.hid (.inr ⟨j, rfl, hji, HF.out⟩)⟩
                  case measure => simp [intOf]; omega
        · go_simp
          have b1 : Below U.heap.size U (U.alloc (.cells #[.int .i64 0, .int .i64 0, .slice none 0 0] 55)) := (Below.refl _ _).alloc (Nat.le_refl _) _
          refine hK.out _ _ (fun _ => S1.out _ b1) ?_
          clear hK K
          try simp only [Act.put, List.setIfInBounds_toArray, List.set_cons_zero, List.set_cons_succ]
          refine Last2.last_one (i := 10) (o := { dst := some 6, op := .alloc 55, type := _, pos := _, after := _, guard := none }) (by kernel_rfl) rfl rfl (fun K hK => ?_)
          go_simp
          have b2 : Below U.heap.size U ((U.alloc (.cells #[.int .i64 0, .int .i64 0, .slice none 0 0] 55)).alloc (.cells #[.int .i64 0, .int .i64 0, .slice none 0 0] 55)) := b1.alloc b1.size _
          refine hK.out _ _ (fun _ => S1.out _ b2) ?_
          clear hK K
          try simp only [Act.put, List.setIfInBounds_toArray, List.set_cons_zero, List.set_cons_succ]
          have xa : Blk ((U.alloc (.cells #[.int .i64 0, .int .i64 0, .slice none 0 0] 55)).alloc (.cells #[.int .i64 0, .int .i64 0, .slice none 0 0] 55)) U.heap.size 55 #[.int .i64 0, .int .i64 0, .slice none 0 0] := heap2_0 _ _ _
          have xb : Blk ((U.alloc (.cells #[.int .i64 0, .int .i64 0, .slice none 0 0] 55)).alloc (.cells #[.int .i64 0, .int .i64 0, .slice none 0 0] 55)) (U.heap.size + 1) 55 #[.int .i64 0, .int .i64 0, .slice none 0 0] := heap2_1 _ _ _
          obtain ⟨b6, hb6⟩ : ∃ b6, U.heap.size + 1 = b6 := ⟨_, rfl⟩
          obtain ⟨b7, hb7⟩ : ∃ b7, U.heap.size = b7 := ⟨_, rfl⟩
          have l6 : U.heap.size ≤ b6 := by omega
          have l7 : U.heap.size ≤ b7 := by omega
          have l67 : b6 ≠ b7 := by omega
          have x6 : Blk ((U.alloc (.cells #[.int .i64 0, .int .i64 0, .slice none 0 0] 55)).alloc (.cells #[.int .i64 0, .int .i64 0, .slice none 0 0] 55)) b6 55 #[.int .i64 0, .int .i64 0, .slice none 0 0] := by rw [← hb6]; exact xb
          have x7 : Blk ((U.alloc (.cells #[.int .i64 0, .int .i64 0, .slice none 0 0] 55)).alloc (.cells #[.int .i64 0, .int .i64 0, .slice none 0 0] 55)) b7 55 #[.int .i64 0, .int .i64 0, .slice none 0 0] := by rw [← hb7]; exact xa
          simp only [hb6]
          simp only [hb7]
          clear xa xb b1 hb6 hb7
          generalize (U.alloc (.cells #[.int .i64 0, .int .i64 0, .slice none 0 0] 55)).alloc (.cells #[.int .i64 0, .int .i64 0, .slice none 0 0] 55) = V at *
          have cc6 : ∀ o, V.cell? ⟨b6, o, none⟩ = (#[.int .i64 0, .int .i64 0, .slice none 0 0] : Array Value)[o]? := x6.cells
          have ff6 := x6.frozen
          have X6 := Lib.hid x6
          have X7 := Lib.hid x7
          have B2 := Lib.hid b2
          clear x6 x7 b2
          have c60 : V.cell? ⟨b6, 0, none⟩ = some (.int .i64 0) := cc6 0
          have c61 : V.cell? ⟨b6, 1, none⟩ = some (.int .i64 0) := cc6 1
          have c62 : V.cell? ⟨b6, 2, none⟩ = some (.slice none 0 0) := cc6 2
          clear cc6
          refine Last2.last_one (i := 12) (o := { dst := none, op := .store 55 (.tmp 6) (.tmp 45), type := _, pos := _, after := _, guard := none }) (by kernel_rfl) rfl rfl (fun K hK => ?_)
          go_simp
          obtain ⟨V2, hV2⟩ : ∃ V2, ((V.setCell ⟨b6, 0, none⟩ (.int .i64 s.1)).setCell ⟨b6, 1, none⟩ (.int .i64 s.2.1)).setCell ⟨b6, 2, none⟩ (.slice Ai s.2.2.length ci) = V2 := ⟨_, rfl⟩
          have b3 : Below U.heap.size U V2 := by rw [← hV2]; exact ((B2.out.setCell (p := ⟨b6, 0, none⟩) l6 _).setCell (p := ⟨b6, 1, none⟩) l6 _).setCell (p := ⟨b6, 2, none⟩) l6 _
          have x6 : Blk V2 b6 55 #[.int .i64 s.1, .int .i64 s.2.1, .slice Ai s.2.2.length ci] := by
            rw [← hV2]
            have h := ((X6.out.put 0 (.int .i64 s.1)).put 1 (.int .i64 s.2.1)).put 2 (.slice Ai s.2.2.length ci)
            simpa only [List.setIfInBounds_toArray, List.set_cons_zero, List.set_cons_succ] using h
          have x7 : Blk V2 b7 55 #[.int .i64 0, .int .i64 0, .slice none 0 0] := by
            rw [← hV2]; exact ((X7.out.far _ _ (fun e => l67 e.symm)).far _ _ (fun e => l67 e.symm)).far _ _ (fun e => l67 e.symm)
          rw [hV2]
          refine hK.out _ _ (fun _ => S1.out _ b3) ?_
          clear hK K hV2 c60 c61 c62 ff6 X6 X7 B2
          try simp only [Act.put, List.setIfInBounds_toArray, List.set_cons_zero, List.set_cons_succ]
          have cc7 : ∀ o, V2.cell? ⟨b7, o, none⟩ = (#[.int .i64 0, .int .i64 0, .slice none 0 0] : Array Value)[o]? := x7.cells
          have ff7 := x7.frozen
          have X6 := Lib.hid x6
          have X7 := Lib.hid x7
          have B3 := Lib.hid b3
          have c70 : V2.cell? ⟨b7, 0, none⟩ = some (.int .i64 0) := cc7 0
          have c71 : V2.cell? ⟨b7, 1, none⟩ = some (.int .i64 0) := cc7 1
          have c72 : V2.cell? ⟨b7, 2, none⟩ = some (.slice none 0 0) := cc7 2
          clear cc7 x6 x7 b3
          refine Last2.last_one (i := 13) (o := { dst := none, op := .store 55 (.tmp 7) (.tmp 50), type := _, pos := _, after := _, guard := none }) (by kernel_rfl) rfl rfl (fun K hK => ?_)
          go_simp
          obtain ⟨V3, hV3⟩ : ∃ V3, ((V2.setCell ⟨b7, 0, none⟩ (.int .i64 t.1)).setCell ⟨b7, 1, none⟩ (.int .i64 t.2.1)).setCell ⟨b7, 2, none⟩ (.slice Aj t.2.2.length cj) = V3 := ⟨_, rfl⟩
          have b4 : Below U.heap.size U V3 := by rw [← hV3]; exact ((B3.out.setCell (p := ⟨b7, 0, none⟩) l7 _).setCell (p := ⟨b7, 1, none⟩) l7 _).setCell (p := ⟨b7, 2, none⟩) l7 _
          have x7 : Blk V3 b7 55 #[.int .i64 t.1, .int .i64 t.2.1, .slice Aj t.2.2.length cj] := by
            rw [← hV3]
            have h := ((X7.out.put 0 (.int .i64 t.1)).put 1 (.int .i64 t.2.1)).put 2 (.slice Aj t.2.2.length cj)
            simpa only [List.setIfInBounds_toArray, List.set_cons_zero, List.set_cons_succ] using h
          have x6 : Blk V3 b6 55 #[.int .i64 s.1, .int .i64 s.2.1, .slice Ai s.2.2.length ci] := by
            rw [← hV3]; exact ((X6.out.far _ _ (fun e => l67 e)).far _ _ (fun e => l67 e)).far _ _ (fun e => l67 e)
          rw [hV3]
          refine hK.out _ _ (fun h => (h (by decide)).elim) ?_
          clear hK K hV3 c70 c71 c72 ff7 X6 X7 B3
          try simp only [Act.put, List.setIfInBounds_toArray, List.set_cons_zero, List.set_cons_succ]
          refine Last2.last_done (by kernel_rfl) ?_ _
          have HD4 := Lib.hid (HD.out.trans (Chg.of_below (C := fun _ => False) b4) (fun _ _ h => h.elim))
          have A4 := Lib.hid (AD.out.chg (Chg.of_below (C := fun _ => False) b4) (fun h => h))
          have s4 := b4.size
          have CI := Lib.hid (CD.out.below (b4.mono (by omega)))
          have CJ := Lib.hid (DD.out.below (b4.mono (by omega)))
          have z4 := (S1.out _ b4).1
          obtain ⟨y0, y1, y2⟩ : V3.cell? ⟨b6, 0, none⟩ = some (.int .i64 s.1) ∧ V3.cell? ⟨b6, 1, none⟩ = some (.int .i64 s.2.1) ∧ V3.cell? ⟨b6, 2, none⟩ = some (.slice Ai s.2.2.length ci) := ⟨x6.cells 0, x6.cells 1, x6.cells 2⟩
          obtain ⟨v0, v1, v2⟩ : V3.cell? ⟨b7, 0, none⟩ = some (.int .i64 t.1) ∧ V3.cell? ⟨b7, 1, none⟩ = some (.int .i64 t.2.1) ∧ V3.cell? ⟨b7, 2, none⟩ = some (.slice Aj t.2.2.length cj) := ⟨x7.cells 0, x7.cells 1, x7.cells 2⟩
          obtain ⟨q1, q2⟩ := A4.out.at hj
          rw [getI_set_ne (by omega)] at q1
          have hsz6 : b6 < V3.heap.size := x6.lt
          have hsz7 : b7 < V3.heap.size := x7.lt
          have X6 := Lib.hid x6
          have X7 := Lib.hid x7
          clear x6 x7 b4 HD AD CD DD S1
          have HK := Lib.hid (key_eq (a := a) HS.out HTX.out)
          have HSK := Lib.hid (same_key (a := a) (z := (i : Int)) HOK.out HS.out HTX.out hji)
          obtain ⟨zj, hzj⟩ : ∃ zj, getI a j = zj := ⟨_, rfl⟩
          have HZJ := Lib.hid hzj
          rw [hzj] at q1
          clear hzj
          by_cases h1 : zj = j
          case neg =>
            have HNC := Lib.hid (show ¬ (getI a j = j ∧ keyE p a i = keyE p a j) from fun h => h1 (HZJ.out.symm.trans h.1))
            have hb1 : (zj == (j : Int)) = false := by rw [beq_eq_false_iff_ne]; exact h1
            clear h1
            by_cases hl0 : 0 < s.2.2.length
            all_goals
              go_wp2_with fail
              go_loopw [8, 9] (fun v i wr => v = .bool false ∧ i = .int .i64 0 ∧ wr = V3) (fun _ _ _ => 0)
              case atStart => exact ⟨rfl, rfl, rfl⟩
              case round =>
                obtain ⟨rfl, rfl, rfl⟩ := hrel
                go_wp2_with fail
                go_roundw
                case rel =>
                  have A5 := A4.out
                  have C5 := HD4.out
                  exact ⟨j - 1, (i : Int), by omega, by omega, by congr 1; omega, A5, C5, Lib.hid (.inl ⟨rfl, fun q h1 h2 => by
                    rcases Nat.lt_or_ge j q with h | h
                    · exact HN2.out q h h2
                    · obtain rfl : q = j := by omega
                      exact HNC.out⟩)⟩
                case measure => simp [intOf]; omega
          case pos =>
          subst h1
          by_cases h2 : s.1 = t.1
          case neg =>
            have HNC := Lib.hid (show ¬ (getI a j = j ∧ keyE p a i = keyE p a j) from fun h => h2 (HK.out.1 h.2).1)
            have hb1 : (s.1 == t.1) = false := by rw [beq_eq_false_iff_ne]; exact h2
            clear h2
            by_cases hl0 : 0 < s.2.2.length
            all_goals
              go_wp2_with fail
              go_loopw [8, 9] (fun v i wr => v = .bool false ∧ i = .int .i64 0 ∧ wr = V3) (fun _ _ _ => 0)
              case atStart => exact ⟨rfl, rfl, rfl⟩
              case round =>
                obtain ⟨rfl, rfl, rfl⟩ := hrel
                go_wp2_with fail
                go_roundw
                case rel =>
                  have A5 := A4.out
                  have C5 := HD4.out
                  exact ⟨j - 1, (i : Int), by omega, by omega, by congr 1; omega, A5, C5, Lib.hid (.inl ⟨rfl, fun q h1 h2 => by
                    rcases Nat.lt_or_ge j q with h | h
                    · exact HN2.out q h h2
                    · obtain rfl : q = j := by omega
                      exact HNC.out⟩)⟩
                case measure => simp [intOf]; omega
          case pos =>
          by_cases h3 : s.2.1 = t.2.1
          case neg =>
            have HNC := Lib.hid (show ¬ (getI a j = j ∧ keyE p a i = keyE p a j) from fun h => h3 (HK.out.1 h.2).2.1)
            have hb1 : (s.2.1 == t.2.1) = false := by rw [beq_eq_false_iff_ne]; exact h3
            have hb2 : (s.1 == t.1) = true := by rw [beq_iff_eq]; exact h2
            clear h2 h3
            by_cases hl0 : 0 < s.2.2.length
            all_goals
              go_wp2_with fail
              go_loopw [8, 9] (fun v i wr => v = .bool false ∧ i = .int .i64 0 ∧ wr = V3) (fun _ _ _ => 0)
              case atStart => exact ⟨rfl, rfl, rfl⟩
              case round =>
                obtain ⟨rfl, rfl, rfl⟩ := hrel
                go_wp2_with fail
                go_roundw
                case rel =>
                  have A5 := A4.out
                  have C5 := HD4.out
                  exact ⟨j - 1, (i : Int), by omega, by omega, by congr 1; omega, A5, C5, Lib.hid (.inl ⟨rfl, fun q h1 h2 => by
                    rcases Nat.lt_or_ge j q with h | h
                    · exact HN2.out q h h2
                    · obtain rfl : q = j := by omega
                      exact HNC.out⟩)⟩
                case measure => simp [intOf]; omega
          case pos =>
          by_cases h4 : s.2.2.length = t.2.2.length
          case neg =>
            have HNC := Lib.hid (show ¬ (getI a j = j ∧ keyE p a i = keyE p a j) from fun h => h4 (by have := congrArg List.length (HK.out.1 h.2).2.2; simpa using this))
            have hb1 : ((s.2.2.length : Int) == (t.2.2.length : Int)) = false := by rw [beq_eq_false_iff_ne]; omega
            have hb2 : (s.1 == t.1) = true := by rw [beq_iff_eq]; exact h2
            have hb3 : (s.2.1 == t.2.1) = true := by rw [beq_iff_eq]; exact h3
            clear h2 h3 h4
            by_cases hl0 : 0 < s.2.2.length
            all_goals
              go_wp2_with fail
              go_loopw [8, 9] (fun v i wr => v = .bool false ∧ i = .int .i64 0 ∧ wr = V3) (fun _ _ _ => 0)
              case atStart => exact ⟨rfl, rfl, rfl⟩
              case round =>
                obtain ⟨rfl, rfl, rfl⟩ := hrel
                go_wp2_with fail
                go_roundw
                case rel =>
                  have A5 := A4.out
                  have C5 := HD4.out
                  exact ⟨j - 1, (i : Int), by omega, by omega, by congr 1; omega, A5, C5, Lib.hid (.inl ⟨rfl, fun q h1 h2 => by
                    rcases Nat.lt_or_ge j q with h | h
                    · exact HN2.out q h h2
                    · obtain rfl : q = j := by omega
                      exact HNC.out⟩)⟩
                case measure => simp [intOf]; omega
          case pos =>
            obtain ⟨m, hm⟩ : ∃ m, t.2.2.length = m := ⟨_, rfl⟩
            have HMt := Lib.hid hm
            have HMs := Lib.hid (h4.trans hm)
            have H2 := Lib.hid h2
            have H3 := Lib.hid h3
            have hb2 : (s.1 == t.1) = true := by rw [beq_iff_eq]; exact h2
            have hb3 : (s.2.1 == t.2.1) = true := by rw [beq_iff_eq]; exact h3
            rw [HMs.out] at y2 h12
            rw [hm] at v2 h12'
            have PS := Lib.hid (parts_in HOK.out hL.out HS.out)
            have PT := Lib.hid (parts_in HOK.out hL.out HTX.out)
            have PS2 := Lib.hid (fun (q : Nat) (z : Int) (hz : s.2.2[q]? = some z) => ok_part HOK.out HS.out hz)
            have PT2 := Lib.hid (fun (q : Nat) (z : Int) (hz : t.2.2[q]? = some z) => ok_part HOK.out HTX.out hz)
            clear h2 h3 h4 hm
            go_wp2_with fail
            go_loopw [8, 9] (fun v i' wr => ∃ (q : Nat) (bq : Bool), q ≤ m ∧ i' = .int .i64 q ∧ v = .bool bq ∧ Below V3.heap.size V3 wr ∧ Hid (bq = true → mapG (a.set i (i : Int)) (s.2.2.take q) = mapG (a.set i (i : Int)) (t.2.2.take q)) ∧ Hid (bq = false → mapG (a.set i (i : Int)) s.2.2 ≠ mapG (a.set i (i : Int)) t.2.2)) (fun _ i' _ => m - (intOf i').toNat)
            case atStart => exact ⟨0, true, Nat.zero_le _, rfl, rfl, Below.refl _ _, Lib.hid (fun _ => rfl), Lib.hid (fun h => by cases h)⟩
            case round =>
              obtain ⟨q, bq, hq, rfl, rfl, hb, HQ, HQ'⟩ := hrel
              have BV := Lib.hid hb
              have A5 := A4.out.chg (Chg.of_below (C := fun _ => False) hb) (fun h => h)
              have C5 := HD4.out.trans (Chg.of_below (C := fun _ => False) hb) (fun _ _ h => h.elim)
              have HA5 := Lib.hid A5
              have HC5 := Lib.hid C5
              have y2r : wr.cell? ⟨b6, 2, none⟩ = some (.slice Ai m ci) := (hb.cell (p := ⟨b6, 2, none⟩) hsz6).trans y2
              have v2r : wr.cell? ⟨b7, 2, none⟩ = some (.slice Aj m cj) := (hb.cell (p := ⟨b7, 2, none⟩) hsz7).trans v2
              obtain ⟨qi1, qi2⟩ := A5.at hin
              rw [getI_set hai] at qi1
              have CIr := Lib.hid (CI.out.below (hb.mono (by omega)))
              have CJr := Lib.hid (CJ.out.below (hb.mono (by omega)))
              have szv := hb.size
              clear hb A5 C5 q1 q2 y2 v2 z4 y0 y1 v0 v1
              cases bq with
              | false =>
                have HNC := Lib.hid (show ¬ (getI a j = j ∧ keyE p a i = keyE p a j) from fun h => HQ'.out rfl (by
                  have h5 := HSK.out
                  rw [decide_eq_true h.2] at h5
                  exact (of_decide_eq_true h5).2.2))
                by_cases hqm : q < m
                all_goals
                  go_wp2_with fail
                  go_roundw
                  case rel =>
                    have A5 := HA5.out
                    have C5 := HC5.out
                    exact ⟨j - 1, (i : Int), by omega, by omega, by congr 1; omega, A5, C5, Lib.hid (.inl ⟨rfl, fun q h1 h2 => by
                      rcases Nat.lt_or_ge j q with h | h
                      · exact HN2.out q h h2
                      · obtain rfl : q = j := by omega
                        exact HNC.out⟩)⟩
                  case measure => simp [intOf]; omega
              | true =>
                by_cases hqm : q < m
                · obtain ⟨x, hx⟩ : ∃ z, s.2.2[q]? = some z := ⟨_, List.getElem?_eq_getElem (by rw [HMs.out]; exact hqm)⟩
                  obtain ⟨y, hy⟩ : ∃ z, t.2.2[q]? = some z := ⟨_, List.getElem?_eq_getElem (by rw [HMt.out]; exact hqm)⟩
                  obtain ⟨qx, rfl, hqx⟩ := PS.out q x hx
                  obtain ⟨qy, rfl, hqy⟩ := PT.out q y hy
                  obtain ⟨az, haz, _, f0⟩ := CIr.out q _ hx
                  obtain ⟨az', haz', _, f0'⟩ := CJr.out q _ hy
                  obtain ⟨g1, g2⟩ := HA5.out.at hqx
                  obtain ⟨g3, g4⟩ := HA5.out.at hqy
                  have hS : mapG (a.set i (i : Int)) (s.2.2.take (q + 1)) = mapG (a.set i (i : Int)) (s.2.2.take q) ++ [getI (a.set i (i : Int)) qx] := by unfold mapG; rw [List.take_add_one, hx]; simp
                  have hS' : mapG (a.set i (i : Int)) (t.2.2.take (q + 1)) = mapG (a.set i (i : Int)) (t.2.2.take q) ++ [getI (a.set i (i : Int)) qy] := by unfold mapG; rw [List.take_add_one, hy]; simp
                  have HN1 : Hid ((getI (a.set i (i : Int)) qx == getI (a.set i (i : Int)) qy) = true → mapG (a.set i (i : Int)) (s.2.2.take (q + 1)) = mapG (a.set i (i : Int)) (t.2.2.take (q + 1))) := Lib.hid (fun h => by rw [hS, hS', HQ.out rfl, beq_iff_eq.1 h])
                  have HN3 : Hid ((getI (a.set i (i : Int)) qx == getI (a.set i (i : Int)) qy) = false → mapG (a.set i (i : Int)) s.2.2 ≠ mapG (a.set i (i : Int)) t.2.2) := Lib.hid (fun h h5 => by
                    have h6 := congrArg (fun l => l[q]?) h5
                    unfold mapG at h6
                    simp only [List.getElem?_map, hx, hy, Option.map_some, Int.toNat_natCast, Option.some.injEq] at h6
                    exact (beq_eq_false_iff_ne.1 h) h6)
                  rw [haz] at y2r
                  rw [haz'] at v2r
                  clear hx hy hS hS' haz haz'
                  generalize getI (a.set i (i : Int)) qx = vx at *
                  generalize getI (a.set i (i : Int)) qy = vy at *
                  go_wp2_with fail
                  refine wp_region_still_tail 17 (by kernel_rfl) (by kernel_rfl) ?_
                  simp only [List.take_succ_cons, List.take_zero, List.drop_succ_cons, List.drop_zero]
                  change wpStill _ _ wr.drew _ _ _
                  have y2' : wr.drew.cell? ⟨b6, 2, none⟩ = some (.slice (some az) m ci) := y2r
                  have v2' : wr.drew.cell? ⟨b7, 2, none⟩ = some (.slice (some az') m cj) := v2r
                  have f0r : wr.drew.cell? (az.add q) = some (.int .i64 (qx : Int)) := f0
                  have f0r' : wr.drew.cell? (az'.add q) = some (.int .i64 (qy : Int)) := f0'
                  have g1' : wr.drew.cell? ⟨g, qx, none⟩ = some (.int .i64 vx) := g1
                  have g3' : wr.drew.cell? ⟨g, qy, none⟩ = some (.int .i64 vy) := g3
                  repeat still_step
                  refine wpStill_nil ?_
                  change wpList _ _ _ _ _ wr.drew
                  have BD := Lib.hid (BV.out.drew)
                  clear y2r v2r y2' v2' f0 f0' f0r f0r' g1 g3 g1' g3' g2 g4 qi1 qi2
                  generalize wr.drew = w9 at *
                  generalize (vx == vy) = bn at *
                  go_wp2_with fail
                  go_roundw
                  case rel => exact ⟨q + 1, bn, by omega, by go_num, rfl, BD.out, HN1, HN3⟩
                  case measure => simp [intOf]; omega
                · obtain rfl : q = m := by omega
                  have HF := Lib.hid (show shp p a i = (j : Int) from by
                    have h5 : mapG (a.set i (i : Int)) s.2.2 = mapG (a.set i (i : Int)) t.2.2 := by
                      have := HQ.out rfl
                      rwa [List.take_of_length_le (by rw [HMs.out]; exact Nat.le_refl _), List.take_of_length_le (by rw [HMt.out]; exact Nat.le_refl _)] at this
                    have h6 := HSK.out
                    rw [show sameD s.1 t.1 s.2.1 t.2.1 (mapG (a.set i (i : Int)) s.2.2) (mapG (a.set i (i : Int)) t.2.2) = true from decide_eq_true ⟨H2.out, H3.out, h5⟩] at h6
                    exact shp_cand HI.out hji (by rw [hL.out]; exact hj) (of_decide_eq_true h6.symm) HZJ.out)
                  go_wp2_with fail
                  go_roundw
                  case rel =>
                    have A6 := HA5.out.set i (j : Int)
                    rw [List.set_set] at A6
                    exact ⟨j - 1, (j : Int), by omega, by omega, by congr 1; omega, A6, HC5.out.put ⟨g, i, none⟩ _ (.inr rfl), Lib.hid (.inr ⟨j, rfl, hji, HF.out⟩)⟩
                  case measure => simp [intOf]; omega
    · obtain rfl : k = n := by omega
      rw [show (k : Int) - 1 - k = -1 by omega]
      go_wp2_with fail
      go_ret
      exact ⟨g, rfl, by omega, by omega, HA.out, BB2.out.trans (HC.out.below (by have := BB2.out.size; omega) (fun b hb => by omega))⟩
end Go.Proofs.Ytkjgibhckcdneaa.ErS
