/- impl.shapesOf lays the classes of errors; impl.AreAlike tells whether two are alike. -/
import Derived.Test.YtkjgibhckcdneaaErsh
import Derived.Test.YtkjgibhckcdneaaErwy
namespace Go.Proofs.Ytkjgibhckcdneaa.ErS
set_option linter.unusedVariables false
set_option linter.unusedSimpArgs false
open Go.ChangeShapes Go.WideShapes Go.ChangeAt Go.RowKit
open Mem IntsP ErP ErM ErT ErA ErU ErD ErW

theorem same_key {p : Er} (hok : okErr p = true) {a : List Int} {i j : Nat} {s t : En} {z : Int} (hs : p[i]? = some s) (ht : p[j]? = some t) (hij : i < j) :
    sameD s.1 t.1 s.2.1 t.2.1 (mapG (a.set i z) s.2.2) (mapG (a.set i z) t.2.2) = decide (keyE p a i = keyE p a j) := by
  have hi := (List.getElem?_eq_some_iff.1 hs).1
  have hj := (List.getElem?_eq_some_iff.1 ht).1
  rw [← key_set hok (a := a) (z := z) (Nat.le_refl i) hi, ← key_set hok (a := a) (z := z) (Nat.le_of_lt hij) hj]
  unfold sameD mapG
  rw [decide_eq_decide, key_eq hs ht]
theorem parts_in {p : Er} {n : Nat} (hok : okErr p = true) (hl : p.length = n) {i : Nat} {s : En} (hs : p[i]? = some s) : ∀ (j : Nat) (z : Int), s.2.2[j]? = some z → ∃ q : Nat, z = q ∧ q < n := fun j z hz => by
  obtain ⟨q, h1, h2, h3⟩ := ok_part hok hs hz
  exact ⟨q, h1, by omega⟩
set_option maxRecDepth 100000 in
set_option maxHeartbeats 4000000 in
theorem shapes_any (n c : Nat) (A : Option Addr) (p : Er) (hl : p.length = n) (hok : okErr p = true) (w : World) (hr : RdE w w.heap.size A p) :
    Calls Try.prog 61 #[.agg #[.slice A n c]] w (ArrR n (arrS p n) w) := by
  have hn12 : n ≤ 12 := by rw [← hl]; exact ((okErr_iff p).1 hok).2.1
  have HOK := Lib.hid hok
  have hL := Lib.hid hl
  have hRd := Lib.hid hr
  have b1 : ∀ o : Obj, Below w.heap.size w (w.alloc o) := fun o => (Below.refl _ _).alloc (Nat.le_refl _) _
  have B1 := Lib.hid b1
  obtain ⟨i0, hi, hz0, hz1, hz2⟩ := info_parts info3
  have hmk := fun W => run_make_rowN (P := Try.prog) 33 3 i0 _ Try.underlying33 hi hz0 .i64 .i64 n n (Nat.le_refl _) (by rw [hz2]; omega) (by omega) W
  rw [hz1] at hmk
  clear hl hok hr b1 hi hz0 hz2
  go_enter Try.func61, Try.ntmps61
  go_wp2_with fail
  obtain ⟨g, hg⟩ : ∃ g, w.heap.size + 1 = g := ⟨_, rfl⟩
  obtain ⟨w2, hw2⟩ : ∃ w2, (w.alloc (.cells #[.slice A n c] 29)).alloc (.cells (madeCells #[Value.int .i64 0] n) 3) = w2 := ⟨_, rfl⟩
  have hA : Arr w2 g n (arrS p 0) := by rw [← hw2, ← hg]; have := Arr.new (w := w.alloc (.cells #[.slice A n c] 29)) (n := n) (by omega); unfold arrS; rw [hL.out]; simpa using this
  have bb2 : Below w.heap.size w w2 := by rw [← hw2]; exact (B1.out _).alloc (by simp) _
  have z2 : w2.cell? ⟨w.heap.size, 0, none⟩ = some (.slice A n c) := by rw [← hw2]; exact (World.cell?_alloc_lt _ _ ⟨w.heap.size, 0, none⟩ (by simp)).trans (by simp [go_sem])
  have l2 : g < w2.heap.size := by rw [← hw2, ← hg]; simp
  have R2 := Lib.hid (hRd.out.below bb2)
  rw [hw2]
  have HA := Lib.hid hA
  have BB2 := Lib.hid bb2
  have s1 : w.heap.size < g := by omega
  rw [hg]
  clear hw2 hg hA bb2
  go_loopw [4] (fun i wr => ∃ k : Nat, k ≤ n ∧ i = .int .i64 ((n : Int) - 1 - k) ∧ Arr wr g n (arrS p k) ∧ Chg (fun b => b = g) w2 wr) (fun i _ => (intOf i + 1).toNat)
  case atStart => exact ⟨0, Nat.zero_le _, by simp, HA.out, Chg.refl _ _⟩
  case round =>
    obtain ⟨k, hk, rfl, hA, hch⟩ := hrel
    have HA := Lib.hid hA
    have zr : wr.cell? ⟨w.heap.size, 0, none⟩ = some (.slice A n c) := (hch.cell (p := ⟨w.heap.size, 0, none⟩) (by show w.heap.size < w2.heap.size; omega) (by show ¬ w.heap.size = g; omega)).trans z2
    have Rr := Lib.hid (rdE_chg R2.out hch (by omega) (fun b hb => by omega))
    have HC := Lib.hid hch
    have lo2 := hch.size
    clear hA hch
    by_cases hlt : k < n
    · obtain ⟨i, hi⟩ : ∃ i : Nat, i + (k + 1) = n := ⟨n - (k + 1), by omega⟩
      rw [show (n : Int) - 1 - k = i by omega]
      obtain ⟨s, hsx⟩ : ∃ s, p[i]? = some s := ⟨_, List.getElem?_eq_getElem (by rw [hL.out]; omega)⟩
      have HS := Lib.hid hsx
      have hin : i < n := by omega
      obtain ⟨e1, e2⟩ := HA.out.at hin
      have HNX := Lib.hid (arrS_next (e := p) (by rw [hL.out]; exact hi))
      have HI := Lib.hid (show Inv p (arrS p k) (i + 1) by have := arrS_inv HOK.out k (by rw [hL.out]; omega); rw [hL.out, show n - k = i + 1 by omega] at this; exact this)
      have hal : (arrS p k).length = n := by rw [arrS_len, hL.out]
      have HAL := Lib.hid hal
      clear hsx hal
      generalize arrS p k = a at *
      go_wp2_with fail
      obtain ⟨wo, hwo⟩ : ∃ wo, wr.setCell ⟨g, i, none⟩ (.int .i64 i) = wo := ⟨_, rfl⟩
      have hco : Chg (fun b => b = g) wr wo := by rw [← hwo]; exact (Chg.refl _ wr).put ⟨g, i, none⟩ _ (.inr rfl)
      have hAo : Arr wo g n (a.set i (i : Int)) := by rw [← hwo]; exact HA.out.set i (i : Int)
      have HCO := Lib.hid (HC.out.trans hco (fun _ _ h => h))
      have HAo := Lib.hid hAo
      have szo := hco.size
      have Ro := Lib.hid (rdE_chg Rr.out hco (by omega) (fun b hb => by omega))
      have zo : wo.cell? ⟨w.heap.size, 0, none⟩ = some (.slice A n c) := (hco.cell (p := ⟨w.heap.size, 0, none⟩) (by show w.heap.size < wr.heap.size; omega) (by show ¬ w.heap.size = g; omega)).trans zr
      rw [hwo]
      clear hwo hco hAo e1 e2 zr HA HC
      go_loopw [5] (fun j' wr => ∃ j : Nat, i < j ∧ j ≤ n ∧ j' = .int .i64 j ∧ Hid (∀ q, i < q → q < j → keyE p a i ≠ keyE p a q) ∧ Below wo.heap.size wo wr) (fun j' _ => n - (intOf j').toNat)
      case atStart => exact ⟨i + 1, by omega, by omega, by simp, Lib.hid (fun q h1 h2 => by omega), Below.refl _ _⟩
      case round =>
        obtain ⟨j, hij, hj, rfl, HNO, hbl⟩ := hrel
        have zr2 : wr.cell? ⟨w.heap.size, 0, none⟩ = some (.slice A n c) := (hbl.cell (p := ⟨w.heap.size, 0, none⟩) (by show w.heap.size < wo.heap.size; omega)).trans zo
        have R3 := Lib.hid (Ro.out.below (hbl.mono (by omega)))
        have A3 := Lib.hid (HAo.out.chg (Chg.of_below (C := fun _ => False) hbl) (fun h => h))
        have HBL := Lib.hid hbl
        have szb := hbl.size
        clear hbl
        by_cases hjl : j < n
        · obtain ⟨t, htx⟩ : ∃ s, p[j]? = some s := ⟨_, List.getElem?_eq_getElem (by rw [hL.out]; exact hjl)⟩
          obtain ⟨ad, Ai, ci, rfl, hab, c0, c1, c2, c3⟩ := R3.out i _ HS.out
          obtain ⟨ad', Aj, cj, e0, _, d0, d1, d2, d3⟩ := R3.out j _ htx
          obtain rfl : ad = ad' := by simpa using e0
          have HTX := Lib.hid htx
          have h12 := ok_many HOK.out HS.out
          have h12' := ok_many HOK.out htx
          have HCa := Lib.hid (sameShape_any w.heap.size g n (a.set i (i : Int)) s.1 s.2.1 t.1 t.2.1 Ai Aj s.2.2.length ci t.2.2.length cj s.2.2 t.2.2 (by omega) (by omega) rfl rfl (parts_in HOK.out hL.out HS.out) (parts_in HOK.out hL.out htx) (by omega) wr.drew (c3.keep (fun _ _ => rfl)) (d3.keep (fun _ _ => rfl)) (by show w.heap.size ≤ wr.heap.size; omega) (A3.out.chg (chg_drew (Chg.refl (fun _ => False) _)) (fun h => h)) (by show g < wr.heap.size; omega))
          rw [same_key HOK.out HS.out htx hij] at HCa
          clear htx e0 c3 d3
          go_wp2_with fail
          refine wp_region_still_tail 11 (by kernel_rfl) (by kernel_rfl) ?_
          simp only [List.take_succ_cons, List.take_zero, List.drop_succ_cons, List.drop_zero]
          change wpStill _ _ wr.drew _ _ _
          have zr2' : wr.drew.cell? ⟨w.heap.size, 0, none⟩ = some (.slice (some ad) n c) := zr2
          have c0' : wr.drew.cell? (ad.add (i * 3)) = some (.int .i64 s.1) := c0
          have c1' : wr.drew.cell? ⟨(ad.add (i * 3)).block, (ad.add (i * 3)).off + 1, none⟩ = some (.int .i64 s.2.1) := c1
          have c2' : wr.drew.cell? ⟨(ad.add (i * 3)).block, (ad.add (i * 3)).off + 2, none⟩ = some (.slice Ai s.2.2.length ci) := c2
          have d0' : wr.drew.cell? (ad.add (j * 3)) = some (.int .i64 t.1) := d0
          have d1' : wr.drew.cell? ⟨(ad.add (j * 3)).block, (ad.add (j * 3)).off + 1, none⟩ = some (.int .i64 t.2.1) := d1
          have d2' : wr.drew.cell? ⟨(ad.add (j * 3)).block, (ad.add (j * 3)).off + 2, none⟩ = some (.slice Aj t.2.2.length cj) := d2
          repeat still_step
          refine wpStill_nil ?_
          change wpList _ _ _ _ _ wr.drew
          clear zr2 zr2' c0 c0' c1 c1' c2 c2' d0 d0' d1 d1' d2 d2'
          go_wp2_with fail
          refine HCa.out.mono ?_
          rintro e w5 ⟨rfl, b5⟩
          have hb5 := HBL.out.drew.trans (b5.mono (by show wo.heap.size ≤ wr.heap.size; omega))
          have HB5 := Lib.hid hb5
          have A5 := Lib.hid (HAo.out.chg (Chg.of_below (C := fun _ => False) hb5) (fun h => h))
          clear b5 hb5
          by_cases hkk : keyE p a i = keyE p a j
          · rw [decide_eq_true hkk]
            obtain ⟨e1, e2⟩ := A5.out.at hjl
            obtain ⟨e3, e4⟩ := A5.out.at hin
            rw [getI_set_ne (by omega)] at e1
            have E5 : Hid (arrS p (k + 1) = (a.set i (i : Int)).set i (getI a j)) := Lib.hid (by rw [HNX.out, List.set_set, shp_same HI.out hij (by rw [hL.out]; exact hjl) hkk])
            clear hkk
            generalize getI a j = zj at *
            go_wp2_with fail
            go_roundw
            case rel => exact ⟨k + 1, by omega, by go_num, by rw [E5.out]; exact A5.out.set i zj, (HCO.out.trans (Chg.of_below (C := fun _ => False) HB5.out) (fun _ _ h => h.elim)).put ⟨g, i, none⟩ _ (.inr rfl)⟩
            case measure => simp [intOf]
          · rw [decide_eq_false hkk]
            have HN : Hid (∀ q, i < q → q < j + 1 → keyE p a i ≠ keyE p a q) := Lib.hid (fun q h1 h2 => by
              rcases Nat.lt_or_ge q j with h | h
              · exact HNO.out q h1 h
              · obtain rfl : q = j := by omega
                exact hkk)
            clear hkk
            go_wp2_with fail
            go_roundw
            case rel => exact ⟨j + 1, by omega, by omega, by go_num, HN, HB5.out⟩
            case measure => simp [intOf]; omega
        · obtain rfl : j = n := by omega
          have E5 : Hid (arrS p (k + 1) = a.set i (i : Int)) := Lib.hid (by rw [HNX.out, shp_none (fun q h1 h2 => HNO.out q h1 (by rw [← hL.out]; exact h2))])
          go_wp2_with fail
          go_roundw
          case rel => exact ⟨k + 1, by omega, by go_num, by rw [E5.out]; exact A3.out, HCO.out.trans (Chg.of_below (C := fun _ => False) HBL.out) (fun _ _ h => h.elim)⟩
          case measure => simp [intOf]
    · obtain rfl : k = n := by omega
      rw [show (k : Int) - 1 - k = -1 by omega]
      go_wp2_with fail
      go_ret
      exact ⟨g, rfl, by omega, by omega, HA.out, BB2.out.trans (HC.out.below (by have := BB2.out.size; omega) (fun b hb => by omega))⟩
end Go.Proofs.Ytkjgibhckcdneaa.ErS
