/- spec.l6In lays for each error whether it is in the walk of another one: whether its number is there more than 0 times. -/
import Derived.Test.YtkjgibhckcdneaaErwy
namespace Go.Proofs.Ytkjgibhckcdneaa.ErW
set_option linter.unusedVariables false
set_option linter.unusedSimpArgs false
open Go.ChangeShapes Go.WideShapes Go.ChangeAt Go.RowKit
open Mem IntsP ErP ErM ErT ErA ErU ErD

theorem addP_nought (a ps : List Int) : ∀ j, addP a ps 0 j = a
  | 0 => addP_zero _ _ _
  | j + 1 => by
    cases h : ps[j]? with
    | none => rw [addP_end (List.getElem?_eq_none_iff.1 h)]; exact addP_nought a ps j
    | some p => rw [addP_next h, addP_nought a ps j, Int.add_zero, set_getI]
def cellsB (a : List Int) : List Value := a.map (fun z => .bool (decide (0 < z)))
theorem cellsB_length (a : List Int) : (cellsB a).length = a.length := by simp [cellsB]
theorem cellsB_at (l : List Int) (j : Nat) (z : Int) (h : l[j]? = some z) : (cellsB l)[j]? = some (.bool (decide (0 < z))) := by simp [cellsB, h]
theorem cellsB_set (l : List Int) (j : Nat) (z : Int) (h : 0 < z) : (cellsB l).set j (.bool true) = cellsB (l.set j z) := by simp [cellsB, List.map_set, h]
theorem infoB : (Try.prog.info? 4).map (fun i => (i.zero, i.size, i.bytes)) = some (some (.bool false), 1, 1) := by kernel_rfl
def ArrB (w : World) (g n : Nat) (a : List Int) : Prop := a.length = n ∧ w.ownsRow g 4 1 (.slice (some ⟨g, 0, none⟩) n n) n (cellsB a)
theorem ArrB.at {w : World} {g n : Nat} {a : List Int} (h : ArrB w g n a) {i : Nat} (hi : i < n) : w.cell? ⟨g, i, none⟩ = some (.bool (decide (0 < getI a i))) ∧ w.frozen? ⟨g, i, none⟩ = false :=
  ⟨(h.2.cellAt _ (by omega)).trans (cellsB_at a i _ (getI_get (by rw [h.1]; exact hi))), h.2.frozenAt _⟩
theorem ArrB.set {w : World} {g n : Nat} {a : List Int} (h : ArrB w g n a) (i : Nat) (z : Int) (hz : 0 < z) : ArrB (w.setCell ⟨g, i, none⟩ (.bool true)) g n (a.set i z) := by
  refine ⟨by rw [List.length_set]; exact h.1, ?_⟩
  have := (h.2.stored i (.bool true)).1
  rwa [cellsB_set a i z hz] at this
theorem ArrB.chg {C : Nat → Prop} {w w' : World} {g n : Nat} {a : List Int} (h : ArrB w g n a) (hb : Chg C w w') (hC : ¬ C g) : ArrB w' g n a := by
  refine ⟨h.1, own_chg h.2 hb (fun k hk hc => ?_)⟩
  have e : g = k := by simpa [Value.ownBlock] using hk
  subst e
  exact hC hc
theorem madeB (n : Nat) : (madeCells #[Value.bool false] (n * 1)).toList = cellsB (List.replicate n 0) := by
  apply List.ext_getElem?
  intro i
  by_cases h : i < n
  · simp [madeCells, cellsB, h, Nat.mod_one]
  · simp [madeCells, cellsB, h]
theorem madeB_at {n i : Nat} (h : i < n) : (madeCells #[Value.bool false] n)[i]? = some (.bool false) := by
  have h1 := madeB n
  rw [Nat.mul_one] at h1
  have h2 : (madeCells #[Value.bool false] n).toList[i]? = some (.bool false) := by rw [h1]; exact cellsB_at _ _ 0 (by rw [List.getElem?_replicate, if_pos h])
  rwa [Array.getElem?_toList] at h2
theorem ArrB.new1 {w : World} {n i : Nat} (hn : n ≤ 2000000) : ArrB (w.alloc (.cells ((madeCells #[Value.bool false] n).setIfInBounds i (.bool true)) 4)) w.heap.size n ((List.replicate n 0).set i 1) := by
  refine ⟨by simp, ?_⟩
  have := World.ownsRow_lit (base := w.heap.size) (e := 4) (size := 1) w ((madeCells #[Value.bool false] n).setIfInBounds i (.bool true)) n (Nat.le_refl _) (by unfold maxLen; omega) (by rw [Array.size_setIfInBounds]; have := size_madeCells #[Value.bool false] (n * 1); rw [Nat.mul_one] at this; simpa using this)
  rw [Array.toList_setIfInBounds] at this
  have h1 := madeB n
  rw [Nat.mul_one] at h1
  rw [h1, cellsB_set _ _ 1 (by omega)] at this
  exact this
def ArrBR (n : Nat) (a : List Int) (w : World) (e : Ending) (w' : World) : Prop := ∃ g, e = .returned (.slice (some ⟨g, 0, none⟩) n n) ∧ w.heap.size ≤ g ∧ g < w'.heap.size ∧ ArrB w' g n a ∧ Below w.heap.size w w'
set_option maxRecDepth 100000 in
set_option maxHeartbeats 4000000 in
theorem in_any (n c : Nat) (A : Option Addr) (p : Er) (x0 : Nat) (hl : p.length = n) (hok : okErr p = true) (hx : x0 < n) (w : World) (hr : RdE w w.heap.size A p) :
    Calls Try.prog 57 #[.agg #[.slice A n c], .int .i64 x0] w (ArrBR n (waysE p x0) w) := by
  have hn12 : n ≤ 12 := by rw [← hl]; exact ((okErr_iff p).1 hok).2.1
  have hs := Lib.hid (show waysE p x0 = arrW p x0 (n - x0) by unfold waysE; rw [hl])
  have HOK := Lib.hid hok
  have hL := Lib.hid hl
  have hRd := Lib.hid hr
  have b1 : ∀ o : Obj, Below w.heap.size w (w.alloc o) := fun o => (Below.refl _ _).alloc (Nat.le_refl _) _
  have B1 := Lib.hid b1
  obtain ⟨i0, hi, hz0, hz1, hz2⟩ := info_parts infoB
  have hmk := fun W => run_make_rowN (P := Try.prog) 62 4 i0 _ Try.underlying62 hi hz0 .i64 .i64 n n (Nat.le_refl _) (by rw [hz2]; omega) (by omega) W
  rw [hz1] at hmk
  clear hl hok hr b1 hi hz0 hz2
  go_enter Try.func57, Try.ntmps57
  have hmc : (madeCells #[Value.bool false] n)[x0]? = some (.bool false) := madeB_at hx
  go_wp2_with fail
  obtain ⟨g, hg⟩ : ∃ g, w.heap.size + 1 = g := ⟨_, rfl⟩
  obtain ⟨w2, hw2⟩ : ∃ w2, (w.alloc (.cells #[.slice A n c] 29)).alloc (.cells ((madeCells #[Value.bool false] n).setIfInBounds x0 (.bool true)) 4) = w2 := ⟨_, rfl⟩
  have hA : ArrB w2 g n (arrW p x0 0) := by rw [← hw2, ← hg]; have := ArrB.new1 (w := w.alloc (.cells #[.slice A n c] 29)) (n := n) (i := x0) (by omega); unfold arrW; rw [hL.out]; simpa using this
  have bb2 : Below w.heap.size w w2 := by rw [← hw2]; exact (B1.out _).alloc (by simp) _
  have z2 : w2.cell? ⟨w.heap.size, 0, none⟩ = some (.slice A n c) := by rw [← hw2]; exact (World.cell?_alloc_lt _ _ ⟨w.heap.size, 0, none⟩ (by simp)).trans (by simp [go_sem])
  have l2 : g < w2.heap.size := by rw [← hw2, ← hg]; simp
  have R2 := Lib.hid (hRd.out.below bb2)
  rw [hw2]
  have HA := Lib.hid hA
  have BB2 := Lib.hid bb2
  have s1 : w.heap.size < g := by omega
  rw [hg]
  clear hw2 hg hA bb2 hmc
  go_loopw [6] (fun i wr => ∃ k : Nat, k ≤ n - x0 ∧ i = .int .i64 ((x0 + k : Nat) : Int) ∧ ArrB wr g n (arrW p x0 k) ∧ Chg (fun b => b = g) w2 wr) (fun i _ => n - (intOf i).toNat)
  case atStart => exact ⟨0, Nat.zero_le _, by simp, HA.out, Chg.refl _ _⟩
  case round =>
    obtain ⟨k, hk, rfl, hA, hch⟩ := hrel
    have HA := Lib.hid hA
    have zr : wr.cell? ⟨w.heap.size, 0, none⟩ = some (.slice A n c) := (hch.cell (p := ⟨w.heap.size, 0, none⟩) (by show w.heap.size < w2.heap.size; omega) (by show ¬ w.heap.size = g; omega)).trans z2
    have Rr := Lib.hid (rdE_chg R2.out hch (by omega) (fun b hb => by omega))
    have HC := Lib.hid hch
    clear hA hch
    by_cases hlt : k < n - x0
    · obtain ⟨i, hi⟩ : ∃ i, x0 + k = i := ⟨_, rfl⟩
      obtain ⟨s, hsx⟩ : ∃ s, p[i]? = some s := ⟨_, List.getElem?_eq_getElem (by rw [hL.out]; omega)⟩
      obtain ⟨ad, Ai, ci, rfl, hab, c0, c1, c2, c3⟩ := Rr.out i _ hsx
      have HN := Lib.hid (arrW_next (k := k) (x := x0) (by rw [hi]; exact hsx))
      have HP := Lib.hid (parts_ne HOK.out hsx)
      have HB := Lib.hid (arrW_top HOK.out x0 k (by rw [hL.out]; omega))
      have hlen := arrW_len p x0 k
      rw [hL.out] at hlen
      have HS := Lib.hid hsx
      have hin : i < n := by omega
      rw [hi] at HN
      rw [hi]
      clear hsx c0 c1 c2 c3
      obtain ⟨m, hm⟩ : ∃ m, s.2.2.length = m := ⟨_, rfl⟩
      have hm12 : m ≤ 12 := by rw [← hm]; exact ok_many HOK.out HS.out
      have HM := Lib.hid hm
      clear hm
      obtain ⟨a, ha⟩ : ∃ a, arrW p x0 k = a := ⟨_, rfl⟩
      rw [ha] at HA HN HB hlen
      clear ha
      have hb1 := HB.out i
      go_wp2_with fail
      obtain ⟨wo, rfl⟩ : ∃ wo, wo = wr := ⟨_, rfl⟩
      have lo2 := HC.out.size
      have hgl : g < wo.heap.size := by omega
      go_loopw [7] (fun j' wr => ∃ j : Nat, j ≤ m ∧ j' = .int .i64 j ∧ ArrB wr g n (addP a s.2.2 (getI a i) j) ∧ Chg (fun b => b = g) wo wr) (fun j' _ => m - (intOf j').toNat)
      case atStart => exact ⟨0, Nat.zero_le _, rfl, by rw [addP_zero]; exact HA.out, Chg.refl _ _⟩
      case round =>
        obtain ⟨j, hj, rfl, hA, hch⟩ := hrel
        have HA2 := Lib.hid hA
        have zr2 : wr.cell? ⟨w.heap.size, 0, none⟩ = some (.slice (some ad) n c) := (hch.cell (p := ⟨w.heap.size, 0, none⟩) (by show w.heap.size < wo.heap.size; omega) (by show ¬ w.heap.size = g; omega)).trans zr
        have R3 := Lib.hid (rdE_chg Rr.out hch (by omega) (fun b hb => by omega))
        have HC2 := Lib.hid hch
        clear hA hch
        obtain ⟨ad2, Ai2, ci2, e0, _, d0, d1, d2, d3⟩ := R3.out i _ HS.out
        obtain rfl : ad = ad2 := by simpa using e0
        have D3 := Lib.hid d3
        rw [HM.out] at d2
        obtain ⟨e1, e2⟩ := HA2.out.at hin
        rw [addP_self a s.2.2 _ i HP.out j] at e1
        clear e0 d3
        by_cases hzi : 0 < getI a i
        case neg =>
          rw [decide_eq_false hzi] at e1
          have E5 : Hid (arrW p x0 (k + 1) = addP a s.2.2 (getI a i) j) := Lib.hid (by rw [HN.out, show getI a i = 0 by omega, addP_nought, addP_nought])
          by_cases hjl : j < m
          all_goals
            go_wp2_with fail
            go_roundw
            case rel => exact ⟨k + 1, by omega, by go_num, by rw [E5.out]; exact HA2.out, HC.out.trans HC2.out (fun _ _ h => h)⟩
            case measure => simp [intOf]; omega
        case pos =>
        rw [decide_eq_true hzi] at e1
        by_cases hjl : j < m
        · obtain ⟨z, hz⟩ : ∃ z, s.2.2[j]? = some z := ⟨_, List.getElem?_eq_getElem (by rw [HM.out]; exact hjl)⟩
          obtain ⟨q, rfl, hq1, hq2⟩ := ok_part HOK.out HS.out hz
          rw [hL.out] at hq2
          obtain ⟨ad', rfl, hab', d4⟩ := D3.out j _ hz
          obtain ⟨e3, e4⟩ := HA2.out.at hq2
          have hN := Lib.hid (addP_next (a := a) (z := getI a i) hz)
          rw [Int.toNat_natCast] at hN
          have hb2 := (addP_in (ps := s.2.2) HB.out hb1.1 hb1.2 j q).1
          clear hz
          generalize addP a s.2.2 (getI a i) j = b at *
          generalize getI a i = zi at *
          have hpos : 0 < getI b q + zi := by omega
          generalize getI b q + zi = zn at *
          generalize decide (0 < getI b q) = bq at *
          clear hb2
          go_wp2_with fail
          go_roundw
          case rel => exact ⟨j + 1, by omega, by go_num, by rw [hN.out]; exact HA2.out.set q zn hpos, HC2.out.put ⟨g, q, none⟩ _ (.inr rfl)⟩
          case measure => simp [intOf]; omega
        · obtain rfl : j = m := by omega
          have E5 : Hid (arrW p x0 (k + 1) = addP a s.2.2 (getI a i) j) := Lib.hid (by rw [HN.out, HM.out])
          go_wp2_with fail
          go_roundw
          case rel => exact ⟨k + 1, by omega, by go_num, by rw [E5.out]; exact HA2.out, HC.out.trans HC2.out (fun _ _ h => h)⟩
          case measure => simp [intOf]; omega
    · obtain rfl : k = n - x0 := by omega
      rw [show x0 + (n - x0) = n by omega]
      go_wp2_with fail
      go_ret
      exact ⟨g, rfl, by omega, by have := HC.out.size; omega, by rw [hs.out]; exact HA.out, BB2.out.trans (HC.out.below (by have := BB2.out.size; omega) (fun b hb => by omega))⟩

end Go.Proofs.Ytkjgibhckcdneaa.ErW
