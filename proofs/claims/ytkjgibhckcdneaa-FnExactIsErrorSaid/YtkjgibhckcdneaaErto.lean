/- The copies that the laws make of errors and of integers; how many values errors hold; equality of equal errors. -/
import Derived.Test.YtkjgibhckcdneaaErm
import Derived.Deep.RegionWith
namespace Go.Proofs.Ytkjgibhckcdneaa.ErT
set_option linter.unusedVariables false
set_option linter.unusedSimpArgs false
open Go.ChangeShapes Go.WideShapes Go.ChangeAt Go.RowKit
open Mem IntsP ErP ErM

theorem madeI (n : Nat) : (madeCells #[Value.int .i64 0] (n * 1)).toList = cellsI (List.replicate n 0) := by
  apply List.ext_getElem?
  intro i
  by_cases h : i < n
  · simp [madeCells, cellsI, h, Nat.mod_one]
  · simp [madeCells, cellsI, h]
theorem set_prefixI {α : Type} (xs : List α) (z s : α) (k n : Nat) (hn : xs.length = n) (hs : xs[k]? = some s) :
    (xs.take k ++ List.replicate (n - k) z).set k s = xs.take (k + 1) ++ List.replicate (n - (k + 1)) z := by
  have hk : k < xs.length := (List.getElem?_eq_some_iff.1 hs).1
  have hl : (xs.take k).length = k := by simp; omega
  rw [List.set_append_right _ _ (by omega), hl, Nat.sub_self, show n - k = n - (k + 1) + 1 by omega, List.replicate_succ, List.set_cons_zero, List.take_add_one, hs]
  simp
theorem toIntS_any (B : Nat) (A : Option Addr) (n c : Nat) (xs : List Int) (hn : n ≤ 2000000) (hl : xs.length = n) (w : World) (hr : RdI w B A xs) (hB : B ≤ w.heap.size) :
    Calls Try.prog 39 #[.slice A n c] w fun e w' => e = .returned (.slice (some ⟨w.heap.size, 0, none⟩) n n) ∧
      w'.ownsRow w.heap.size 3 1 (.slice (some ⟨w.heap.size, 0, none⟩) n n) n (cellsI xs) ∧ Below w.heap.size w w' := by
  obtain ⟨i0, hi, hz0, hz1, hz2⟩ := info_parts info3
  have hmk := fun W => run_make_rowN (P := Try.prog) 33 3 i0 _ Try.underlying33 hi hz0 .i64 .i64 n n (Nat.le_refl _) (by rw [hz2]; omega) (by omega) W
  have hR := Lib.hid hr
  have hL := Lib.hid hl
  clear hi hz0 hz2 hr hl
  rw [hz1] at hmk
  go_enter Try.func39, Try.ntmps39
  go_wp2
  go_loopw [4] (fun i wr => ∃ k : Nat, k ≤ n ∧ i = .int .i64 k ∧ wr.ownsRow w.heap.size 3 1 (.slice (some ⟨w.heap.size, 0, none⟩) n n) n (cellsI (xs.take k ++ List.replicate (n - k) 0)) ∧ Below w.heap.size w wr) (fun i _ => n - (intOf i).toNat)
  case atStart =>
    refine ⟨0, Nat.zero_le _, rfl, ?_, (Below.refl _ _).alloc (Nat.le_refl _) _⟩
    have := World.ownsRow_lit (base := w.heap.size) (e := 3) (size := 1) w (madeCells #[Value.int .i64 0] (n * 1)) n (Nat.le_refl _) (by unfold maxLen; omega) (size_madeCells _ _)
    rw [madeI] at this
    simpa using this
  case round =>
    obtain ⟨k, hk, rfl, hown, hb⟩ := hrel
    by_cases hlt : k < n
    · obtain ⟨s, hs⟩ : ∃ s, xs[k]? = some s := ⟨_, List.getElem?_eq_getElem (by rw [hL.out]; exact hlt)⟩
      obtain ⟨ad, rfl, hab, h0⟩ := (hR.out.below (hb.mono hB)) k _ hs
      have hS := Lib.hid hs
      have hO := Lib.hid hown
      obtain ⟨u0, g0⟩ := own_cellI hown hlt
      have f := hown.frozenAt
      clear hs hown
      go_wp2
      go_roundw
      case rel =>
        refine ⟨k + 1, by omega, by go_num, ?_, ?_⟩
        · rw [← set_prefixI xs 0 s k n hL.out hS.out]
          exact own_setI hO.out k s
        · exact hb.setCell (p := ⟨w.heap.size, k, none⟩) (Nat.le_refl _) _
      case measure => simp [intOf]; omega
    · obtain rfl : k = n := by omega
      have hO := Lib.hid hown
      clear hown
      go_wp2
      go_ret
      refine ⟨rfl, ?_, hb⟩
      have := hO.out
      rwa [List.take_of_length_le (by rw [hL.out]; omega), Nat.sub_self, List.replicate_zero, List.append_nil] at this

theorem toErrorNode_any (B : Nat) (k d : Int) (A : Option Addr) (n c : Nat) (xs : List Int) (hn : n ≤ 2000000) (hl : xs.length = n) (w : World) (hr : RdI w B A xs) (hB : B ≤ w.heap.size) :
    Calls Try.prog 73 #[.agg #[.int .i64 k, .int .i64 d, .slice A n c]] w fun e w' => ∃ g, e = .returned (.agg #[.int .i64 k, .int .i64 d, .slice (some ⟨g, 0, none⟩) n n]) ∧
      w'.ownsRow w.heap.size 3 1 (.slice (some ⟨g, 0, none⟩) n n) n (cellsI xs) ∧ Below w.heap.size w w' := by
  have hT := Lib.hid (fun W h hB => toIntS_any B A n c xs hn hl W h hB)
  have hR := Lib.hid hr
  clear hr hl
  go_enter Try.func73, Try.ntmps73
  go_wp2_with fail
  have b0 : ∀ o o1 o2 : Obj, Below w.heap.size w (((w.alloc o).alloc o1).alloc o2) := fun o o1 o2 => (((Below.refl _ _).alloc (Nat.le_refl _) _).alloc (by simp) _).alloc (by simp; omega) _
  have B0 := Lib.hid b0
  clear b0
  refine (hT.out _ (hR.out.below ((B0.out _ _ _).mono hB)) (by simp; omega)).mono ?_
  rintro e w1 ⟨rfl, o1, b1⟩
  have s1 := b1.size
  have k1 : Blk w1 (w.heap.size + 1) 55 #[.int .i64 0, .int .i64 0, .slice none 0 0] := Blk.below (heap3_1 w _ _ _) b1 (by simp)
  have k2 : Blk w1 (w.heap.size + 1 + 1) 55 #[.int .i64 k, .int .i64 d, .slice none 0 0] := Blk.below (heap3_2 w _ _ _) b1 (by simp)
  have O1 := Lib.hid o1
  have BB := Lib.hid ((B0.out _ _ _).trans (b1.mono (by simp; omega)))
  clear b1 o1
  simp only [World.size_alloc] at *
  obtain ⟨y0, y1, y2, x0, x1, x2⟩ : w1.cell? ⟨w.heap.size + 1, 0, none⟩ = some (.int .i64 0) ∧ w1.cell? ⟨w.heap.size + 1, 1, none⟩ = some (.int .i64 0) ∧ w1.cell? ⟨w.heap.size + 1, 2, none⟩ = some (.slice none 0 0) ∧
    w1.cell? ⟨w.heap.size + 1 + 1, 0, none⟩ = some (.int .i64 k) ∧ w1.cell? ⟨w.heap.size + 1 + 1, 1, none⟩ = some (.int .i64 d) ∧ w1.cell? ⟨w.heap.size + 1 + 1, 2, none⟩ = some (.slice none 0 0) := ⟨k1.cells 0, k1.cells 1, k1.cells 2, k2.cells 0, k2.cells 1, k2.cells 2⟩
  have f1 := k1.frozen
  have f2 := k2.frozen
  clear k1 k2
  go_wp2_with fail
  refine bodyPost_ret (v := .agg #[.int .i64 k, .int .i64 d, .slice (some ⟨w.heap.size + 1 + 1 + 1, 0, none⟩) n n]) (by simp [results, Try.results73, go_sem, y0, y1, y2]) rfl ⟨_, rfl, ?_, ?_⟩
  · have hc : Chg (fun b => b = w.heap.size + 1 ∨ b = w.heap.size + 1 + 1) w1 _ := ((((Chg.refl _ w1).put ⟨w.heap.size + 1 + 1, 2, none⟩ (.slice (some ⟨w.heap.size + 1 + 1 + 1, 0, none⟩) n n) (.inr (.inr rfl))).put ⟨w.heap.size + 1, 0, none⟩ (.int .i64 k) (.inr (.inl rfl))).put ⟨w.heap.size + 1, 1, none⟩ (.int .i64 d) (.inr (.inl rfl))).put ⟨w.heap.size + 1, 2, none⟩ (.slice (some ⟨w.heap.size + 1 + 1 + 1, 0, none⟩) n n) (.inr (.inl rfl))
    exact own_mono (own_chg O1.out hc (fun x hx hc => by simp [Value.ownBlock] at hx; omega)) (by omega)
  · exact (((BB.out.setCell (p := ⟨w.heap.size + 1 + 1, 2, none⟩) (by show w.heap.size ≤ w.heap.size + 1 + 1; omega) _).setCell (p := ⟨w.heap.size + 1, 0, none⟩) (by show w.heap.size ≤ w.heap.size + 1; omega) _).setCell (p := ⟨w.heap.size + 1, 1, none⟩) (by show w.heap.size ≤ w.heap.size + 1; omega) _).setCell (p := ⟨w.heap.size + 1, 2, none⟩) (by show w.heap.size ≤ w.heap.size + 1; omega) _

theorem own_cellN {w : World} {B e n g c : Nat} {xs : List Cn} (h : w.ownsRow B e 3 (.slice (some ⟨g, 0, none⟩) n c) n (cellsN xs)) {j : Nat} (hj : j < n) :
    ∃ u0 u1 u2, w.cell? ⟨g, j * 3, none⟩ = some u0 ∧ w.cell? ⟨g, j * 3 + 1, none⟩ = some u1 ∧ w.cell? ⟨g, j * 3 + 2, none⟩ = some u2 := by
  have hn : xs.length = n := by have := h.1; rw [cellsN_length] at this; omega
  obtain ⟨s, hs⟩ : ∃ s, xs[j]? = some s := ⟨_, List.getElem?_eq_getElem (by omega)⟩
  obtain ⟨c0, c1, c2⟩ := cellsN_at xs j s hs
  exact ⟨_, _, _, (h.cellAt _ (by omega)).trans c0, (h.cellAt _ (by omega)).trans c1, (h.cellAt _ (by omega)).trans c2⟩
theorem own_setN {w : World} {B e n g c : Nat} {xs : List Cn} (h : w.ownsRow B e 3 (.slice (some ⟨g, 0, none⟩) n c) n (cellsN xs)) {j : Nat} (hj : j < n) (s : Cn) :
    (((w.setCell ⟨g, j * 3, none⟩ (.int .i64 s.1)).setCell ⟨g, j * 3 + 1, none⟩ (.int .i64 s.2.1)).setCell ⟨g, j * 3 + 2, none⟩ s.2.2).ownsRow B e 3 (.slice (some ⟨g, 0, none⟩) n c) n (cellsN (xs.set j s)) := by
  have hn : xs.length = n := by have := h.1; rw [cellsN_length] at this; omega
  have := (((h.stored (j * 3) (.int .i64 s.1)).1.stored (j * 3 + 1) (.int .i64 s.2.1)).1.stored (j * 3 + 2) s.2.2).1
  rwa [cellsN_set xs j s (by omega)] at this

set_option maxHeartbeats 1000000 in
theorem toErrorNodeS_any (B : Nat) (A : Option Addr) (n c : Nat) (e : Er) (hn : n ≤ 2000000) (hl : e.length = n) (hsm : SmallE e 2000000) (w : World) (hr : RdE w B A e) (hB : B ≤ w.heap.size) :
    Calls Try.prog 47 #[.slice A n c] w fun x w' => x = .returned (.slice (some ⟨w.heap.size, 0, none⟩) n n) ∧
      OwnE w' w.heap.size (.slice (some ⟨w.heap.size, 0, none⟩) n n) e ∧ Below w.heap.size w w' := by
  obtain ⟨i0, hi, hz0, hz1, hz2⟩ := info_parts infoNode
  have hmk := fun W => run_make_rowN (P := Try.prog) 27 55 i0 _ Try.underlying27 hi hz0 .i64 .i64 n n (Nat.le_refl _) (by rw [hz2]; omega) (by omega) W
  have hR := Lib.hid hr
  have hL := Lib.hid hl
  have hS := Lib.hid hsm
  clear hi hz0 hz2 hr hl hsm
  rw [hz1] at hmk
  go_enter Try.func47, Try.ntmps47
  go_wp2
  go_loopw [4] (fun i wr => ∃ (k : Nat) (vals : List Cn), k ≤ n ∧ i = .int .i64 k ∧ wr.ownsRow w.heap.size 55 3 (.slice (some ⟨w.heap.size, 0, none⟩) n n) n (cellsN (vals ++ List.replicate (n - k) (0, 0, .slice none 0 0))) ∧
      RowsE wr (w.heap.size + 1) k vals e ∧ w.heap.size + 1 ≤ wr.heap.size ∧ Below w.heap.size w wr) (fun i _ => n - (intOf i).toNat)
  case atStart =>
    refine ⟨0, [], Nat.zero_le _, rfl, ?_, RowsE.zero _ _ _, by simp, (Below.refl _ _).alloc (Nat.le_refl _) _⟩
    have := World.ownsRow_lit (base := w.heap.size) (e := 55) (size := 3) w (madeCells #[Value.int .i64 0, Value.int .i64 0, Value.slice none 0 0] (n * 3)) n (Nat.le_refl _) (by unfold maxLen; omega) (size_madeCells _ _)
    rw [madeN] at this
    simpa using this
  case round =>
    obtain ⟨k, vals, hk, rfl, hown, hrows, hsz, hb⟩ := hrel
    by_cases hlt : k < n
    · obtain ⟨⟨s0, s1, s2⟩, hs⟩ : ∃ s, e[k]? = some s := ⟨_, List.getElem?_eq_getElem (by rw [hL.out]; exact hlt)⟩
      obtain ⟨ad, Ai, ci, rfl, hab, h0, h1, h2, h3⟩ := (hR.out.below (hb.mono hB)) k _ hs
      have hH := Lib.hid hs
      have hO := Lib.hid hown
      have hW := Lib.hid hrows
      have hxn : s2.length ≤ 2000000 := hS.out k _ hs
      have H3 := Lib.hid h3
      clear hs hown hrows h3
      dsimp only at h0 h1 h2
      go_wp2_with fail
      refine (toErrorNode_any B s0 s1 Ai s2.length ci s2 hxn rfl _ H3.out (by omega)).mono ?_
      rintro x w1 ⟨g, rfl, ho1, hb1⟩
      obtain ⟨u0, u1, u2, g0, g1, g2⟩ := own_cellN (own_below hO.out hb1 (Nat.le_refl _)) hlt
      have f1 := (own_below hO.out hb1 (Nat.le_refl _)).frozenAt
      have O1 := Lib.hid ho1
      clear ho1
      go_wp2_with fail
      go_roundw
      case rel =>
        have hset : (vals ++ List.replicate (n - k) ((0, 0, .slice none 0 0) : Cn)).set k (s0, s1, .slice (some ⟨g, 0, none⟩) s2.length s2.length) = (vals ++ [(s0, s1, .slice (some ⟨g, 0, none⟩) s2.length s2.length)]) ++ List.replicate (n - (k + 1)) (0, 0, .slice none 0 0) := by
          rw [List.set_append_right _ _ (by rw [hW.out.1]; omega), hW.out.1, Nat.sub_self, show n - k = n - (k + 1) + 1 by omega, List.replicate_succ, List.set_cons_zero]; simp
        have st := own_setN (own_below hO.out hb1 (Nat.le_refl _)) hlt (s0, s1, .slice (some ⟨g, 0, none⟩) s2.length s2.length)
        rw [hset] at st
        refine ⟨k + 1, _, by omega, by go_num, st, ?_, ?_, ?_⟩
        · have := (hW.out.push hb1 hH.out (own_mono O1.out (by omega)) (fun x hx => (O1.out.lt x hx).1))
          exact ((this.chg (Chg.set _ _ _) (fun x hx _ => by show ¬ x = w.heap.size; omega)).chg (Chg.set _ _ _) (fun x hx _ => by show ¬ x = w.heap.size; omega)).chg (Chg.set _ _ _) (fun x hx _ => by show ¬ x = w.heap.size; omega)
        · have := hb1.size; simp [World.setCell]; omega
        · exact (((hb.trans (hb1.mono (by omega))).setCell (p := ⟨w.heap.size, k * 3, none⟩) (Nat.le_refl _) _).setCell (p := ⟨w.heap.size, k * 3 + 1, none⟩) (Nat.le_refl _) _).setCell (p := ⟨w.heap.size, k * 3 + 2, none⟩) (Nat.le_refl _) _
      case measure => simp [intOf]; omega
    · obtain rfl : k = n := by omega
      have hO := Lib.hid hown
      have hW := Lib.hid hrows
      clear hown hrows
      go_wp2
      go_ret
      refine ⟨rfl, ?_, hb⟩
      have hO' := hO.out
      have hW' := hW.out
      rw [Nat.sub_self, List.replicate_zero, List.append_nil] at hO'
      rw [← hL.out] at hO' hW' ⊢
      exact hW'.own (by omega) hO'

theorem toErrors_any (B : Nat) (A : Option Addr) (n c : Nat) (p : Er) (hn : n ≤ 2000000) (hl : p.length = n) (hsm : SmallE p 2000000) (w : World) (hr : RdE w B A p) (hB : B ≤ w.heap.size) :
    Calls Try.prog 16 #[.agg #[.slice A n c]] w fun e w' => ∃ g, e = .returned (.agg #[.slice (some ⟨g, 0, none⟩) n n]) ∧
      OwnE w' w.heap.size (.slice (some ⟨g, 0, none⟩) n n) p ∧ Below w.heap.size w w' := by
  have hR := Lib.hid hr
  have hL := Lib.hid hl
  have hS := Lib.hid hsm
  clear hr hl hsm
  go_enter Try.func16, Try.ntmps16
  go_wp2_with fail
  refine (toErrorNodeS_any B A n c p hn hL.out hS.out _ ((hR.out.below (((Below.refl _ _).alloc hB _).alloc (by simp; omega) _)).below ((Below.refl _ _).alloc (by simp; omega) _)) (by simp; omega)).mono ?_
  rintro e w1 ⟨rfl, ho1, hb1⟩
  have O1 := Lib.hid ho1
  have s1 := hb1.size
  have c0 : w1.cell? ⟨w.heap.size + 1 + 1, 0, none⟩ = some (.slice none 0 0) := (hb1.cell (p := ⟨w.heap.size + 1 + 1, 0, none⟩) (by simp)).trans (by simp [go_sem])
  have f0 : w1.frozen? ⟨w.heap.size + 1 + 1, 0, none⟩ = false := (hb1.frozen (p := ⟨w.heap.size + 1 + 1, 0, none⟩) (by simp)).trans (by simp [go_sem])
  have c2 : w1.cell? ⟨w.heap.size + 1, 0, none⟩ = some (.slice none 0 0) := (hb1.cell (p := ⟨w.heap.size + 1, 0, none⟩) (by simp)).trans (by simp [go_sem])
  have f2 : w1.frozen? ⟨w.heap.size + 1, 0, none⟩ = false := (hb1.frozen (p := ⟨w.heap.size + 1, 0, none⟩) (by simp)).trans (by simp [go_sem])
  clear ho1
  go_wp2_with fail
  refine bodyPost_ret (v := .agg #[.slice (some ⟨w.heap.size + 1 + 1 + 1, 0, none⟩) n n]) (by simp [results, Try.results16, go_sem, c2]) rfl ⟨_, rfl, ?_, ?_⟩
  · have o := O1.out
    simp only [World.size_alloc] at o
    exact ((o.chg (Chg.set _ ⟨w.heap.size + 1 + 1, 0, none⟩ _) (fun k hk _ => by show ¬ k = w.heap.size + 1 + 1; omega)).chg (Chg.set _ ⟨w.heap.size + 1, 0, none⟩ _) (fun k hk _ => by show ¬ k = w.heap.size + 1; omega)).mono (by omega)
  · exact (((((Below.refl w.heap.size w).alloc (Nat.le_refl _) _).alloc (by simp) _).alloc (by simp; omega) _).trans (hb1.mono (by simp; omega))).setCell (p := ⟨w.heap.size + 1 + 1, 0, none⟩) (by show w.heap.size ≤ w.heap.size + 1 + 1; omega) _ |>.setCell (p := ⟨w.heap.size + 1, 0, none⟩) (by show w.heap.size ≤ w.heap.size + 1; omega) _

/-! ### How many values errors hold. -/
def totE (p : Er) : Nat := p.length + (p.map (fun s => s.2.2.length)).sum
def szR (l : Int) (k : Nat) : Int := if l - k < 0 then -1 else l - k
theorem szIntS_any (A : Option Addr) (n c : Nat) (l : Int) (h0 : 0 ≤ l) (h1 : l ≤ 2000000) (hn : n ≤ 9223372036854775807) (w : World) :
    Calls Try.prog 80 #[.slice A n c, .int .i64 l] w fun e w' => e = .returned (.int .i64 (szR l n)) ∧ w = w' := by
  by_cases h : l - (n : Int) < 0
  · have hs := Lib.hid (show szR l n = -1 by rw [szR, if_pos h])
    go_enter Try.func80, Try.ntmps80
    go_wp2
    go_ret
    exact ⟨by rw [hs.out]; rfl, rfl⟩
  · have hs := Lib.hid (show szR l n = l - n by rw [szR, if_neg h])
    go_enter Try.func80, Try.ntmps80
    go_wp2
    go_ret
    exact ⟨by rw [hs.out]; rfl, rfl⟩
theorem szR_hi (l : Int) (k : Nat) (h : l ≤ 2000000) : szR l k ≤ 2000000 := by unfold szR; split <;> omega
theorem szR_pos (l : Int) (k : Nat) (h : 0 ≤ szR l k) : szR l k = l - k := by
  unfold szR at *
  split at h
  · omega
  · rename_i g; rw [if_neg g]
theorem szR_neg (l : Int) (k : Nat) (h : szR l k < 0) : szR l k = -1 ∧ l < k := by
  unfold szR at *
  split at h
  · rename_i g; rw [if_pos g]; exact ⟨rfl, by omega⟩
  · omega
theorem szErrorNode_any (k d : Int) (A : Option Addr) (n c : Nat) (l : Int) (h0 : 0 ≤ l) (h1 : l ≤ 2000000) (hn : n ≤ 9223372036854775807) (w : World) :
    Calls Try.prog 71 #[.agg #[.int .i64 k, .int .i64 d, .slice A n c], .int .i64 l] w fun e w' => e = .returned (.int .i64 (szR l n)) ∧ Below w.heap.size w w' := by
  go_enter Try.func71, Try.ntmps71
  go_wp2_with fail
  refine (szIntS_any A n c l h0 h1 hn _).mono ?_
  rintro e w1 ⟨rfl, rfl⟩
  by_cases hneg : szR l n < 0
  · have hq := Lib.hid (szR_neg _ _ hneg).1
    go_wp2_with fail
    go_ret
    exact ⟨by rw [hq.out]; rfl, (Below.refl _ _).alloc (Nat.le_refl _) _⟩
  · go_wp2_with fail
    go_ret
    exact ⟨rfl, (Below.refl _ _).alloc (Nat.le_refl _) _⟩
def usedE (p : Er) (k : Nat) : Nat := p.length + ((p.take k).map (fun s => s.2.2.length)).sum
theorem usedE_next (p : Er) (k : Nat) (s : En) (h : p[k]? = some s) : usedE p (k + 1) = usedE p k + s.2.2.length := by
  unfold usedE
  rw [List.take_add_one, h]
  simp
  omega
theorem usedE_le (p : Er) (k : Nat) : usedE p k ≤ totE p := by
  unfold usedE totE
  have : (p.map (fun s => s.2.2.length)).sum = ((p.take k).map (fun s => s.2.2.length)).sum + ((p.drop k).map (fun s => s.2.2.length)).sum := by
    conv => lhs; rw [← List.take_append_drop k p]
    rw [List.map_append, List.sum_append]
  omega
theorem usedE_all (p : Er) (k : Nat) (h : k = p.length) : usedE p k = totE p := by
  subst h; unfold usedE totE; rw [List.take_length]
def szE (l : Int) (p : Er) : Int := szR l (totE p)
set_option maxHeartbeats 1000000 in
theorem szErrorNodeS_any (B : Nat) (A : Option Addr) (n c : Nat) (p : Er) (l : Int) (h0 : 0 ≤ l) (h1 : l ≤ 2000000) (hn : n ≤ 9223372036854775807) (hl : p.length = n) (hsm : SmallE p 9223372036854775807) (w : World) (hr : RdE w B A p) (hB : B ≤ w.heap.size) :
    Calls Try.prog 45 #[.slice A n c, .int .i64 l] w fun e w' => e = .returned (.int .i64 (szE l p)) ∧ Below w.heap.size w w' := by
  have hR := Lib.hid hr
  have hL := Lib.hid hl
  have hS := Lib.hid hsm
  clear hr hl hsm
  by_cases h : l - (n : Int) < 0
  · have hs := Lib.hid (show szE l p = -1 by
      have : n ≤ totE p := by unfold totE; rw [hL.out]; omega
      unfold szE szR; rw [if_pos (by omega)])
    go_enter Try.func45, Try.ntmps45
    go_wp2
    go_ret
    exact ⟨by rw [hs.out]; rfl, Below.refl _ _⟩
  · have hz : usedE p 0 = n := by unfold usedE; rw [hL.out]; simp
    have hZ := Lib.hid hz
    clear hz
    go_enter Try.func45, Try.ntmps45
    go_wp2
    go_loopw [1, 5] (fun v i wr => ∃ (k : Nat) (m : Int), k ≤ n ∧ i = .int .i64 k ∧ v = .int .i64 m ∧ 0 ≤ m ∧ m ≤ 2000000 ∧ Hid (m = l - usedE p k) ∧ Below w.heap.size w wr) (fun _ i _ => n - (intOf i).toNat)
    case atStart => exact ⟨0, l - n, Nat.zero_le _, rfl, rfl, by omega, by omega, Lib.hid (by rw [hZ.out]), Below.refl _ _⟩
    case round =>
      obtain ⟨k, m, hk, rfl, rfl, m0, m1, hM, hb⟩ := hrel
      by_cases hlt : k < n
      · obtain ⟨⟨s0, s1, s2⟩, hs⟩ : ∃ s, p[k]? = some s := ⟨_, List.getElem?_eq_getElem (by rw [hL.out]; exact hlt)⟩
        obtain ⟨ad, Ai, ci, rfl, hab, c0, c1, c2, _⟩ := (hR.out.below (hb.mono hB)) k _ hs
        have hxn := hS.out k _ hs
        have hu := Lib.hid (usedE_next p k _ hs)
        have hle := usedE_le p (k + 1)
        have hsz := hb.size
        clear hs
        dsimp only at c0 c1 c2 hxn
        go_wp2_with fail
        refine (szErrorNode_any s0 s1 Ai s2.length ci m m0 m1 hxn _).mono ?_
        rintro e w1 ⟨rfl, b1⟩
        have bb := Lib.hid (hb.trans (b1.mono hsz))
        have hhi := szR_hi m s2.length m1
        by_cases hneg : szR m s2.length < 0
        · obtain ⟨hq, hlt2⟩ := szR_neg _ _ hneg
          have hQ := Lib.hid hq
          clear hq
          have hfin : Hid (szE l p = -1) := Lib.hid (by
            have := hM.out; have := hu.out
            unfold szE szR; rw [if_pos (by omega)])
          go_wp2_with fail
          go_ret
          exact ⟨by rw [hfin.out]; rfl, bb.out⟩
        · have hq := Lib.hid (szR_pos m s2.length (by omega))
          have h00 : 0 ≤ szR m s2.length := by omega
          have hn2 : Hid (szR m s2.length = l - usedE p (k + 1)) := Lib.hid (by
            have := hM.out; have := hu.out; have := hq.out; omega)
          generalize szR m s2.length = m' at *
          go_wp2_with fail
          go_roundw
          case rel => exact ⟨k + 1, m', by omega, by go_num, rfl, h00, hhi, hn2, bb.out⟩
          case measure => simp [intOf]; omega
      · obtain rfl : k = n := by omega
        have hfin : Hid (szE l p = m) := Lib.hid (by
          have := hM.out
          have := usedE_all p k hL.out.symm
          unfold szE szR; rw [if_neg (by omega)]; omega)
        go_wp2_with fail
        go_ret
        exact ⟨by rw [hfin.out]; rfl, hb⟩
theorem szErrors_any (B : Nat) (A : Option Addr) (n c : Nat) (p : Er) (l : Int) (h0 : 0 ≤ l) (h1 : l ≤ 2000000) (hn : n ≤ 9223372036854775807) (hl : p.length = n) (hsm : SmallE p 9223372036854775807) (w : World) (hr : RdE w B A p) (hB : B ≤ w.heap.size) :
    Calls Try.prog 14 #[.agg #[.slice A n c], .int .i64 l] w fun e w' => e = .returned (.int .i64 (szE l p)) ∧ Below w.heap.size w w' := by
  have hR := Lib.hid hr
  have hL := Lib.hid hl
  have hS := Lib.hid hsm
  clear hr hl hsm
  go_enter Try.func14, Try.ntmps14
  go_wp2_with fail
  refine (szErrorNodeS_any B A n c p l h0 h1 hn hL.out hS.out _ (hR.out.below ((Below.refl _ _).alloc hB _)) (by simp; omega)).mono ?_
  rintro e w1 ⟨rfl, b1⟩
  have bb := Lib.hid (((Below.refl _ _).alloc (Nat.le_refl _) (.cells #[.slice A n c] 24)).trans (b1.mono (by simp)))
  by_cases hneg : szE l p < 0
  · have hq := Lib.hid (szR_neg _ _ hneg).1
    go_wp2_with fail
    go_ret
    exact ⟨by rw [szE, hq.out]; rfl, bb.out⟩
  · go_wp2_with fail
    go_ret
    exact ⟨rfl, bb.out⟩
theorem szE_small {p : Er} (h : ¬ szE 1048576 p < 0) : p.length ≤ 1048576 ∧ SmallE p 1048576 := by
  have ht : totE p ≤ 1048576 := by
    unfold szE szR at h
    split at h <;> omega
  refine ⟨by unfold totE at ht; omega, fun i xs hx => ?_⟩
  have h1 := usedE_next p i xs hx
  have h2 := usedE_le p (i + 1)
  omega

/-! ### Comparing equal errors. -/
theorem eqErrorNode_same (B : Nat) (k d : Int) (A A' : Option Addr) (n c c' : Nat) (xs : List Int) (hn : n ≤ 9223372036854775807) (hl : xs.length = n) (w : World) (hr : RdI w B A xs) (hr' : RdI w B A' xs) (hB : B ≤ w.heap.size) :
    Calls Try.prog 74 #[.agg #[.int .i64 k, .int .i64 d, .slice A n c], .agg #[.int .i64 k, .int .i64 d, .slice A' n c']] w fun e w' => e = .returned (.bool true) ∧ Below w.heap.size w w' := by
  have hR := Lib.hid hr
  have hR' := Lib.hid hr'
  clear hr hr'
  have hb0 : ∀ o o' : Obj, Below w.heap.size w ((w.alloc o).alloc o') := fun o o' => ((Below.refl _ _).alloc (Nat.le_refl _) _).alloc (by simp) _
  have HB := Lib.hid hb0
  clear hb0
  go_enter Try.func74, Try.ntmps74
  go_wp2_with fail
  refine (eqIntS_same B A A' n c c' xs hn hl _ (by exact hR.out.below ((HB.out _ _).mono hB)) (by exact hR'.out.below ((HB.out _ _).mono hB)) (by exact Nat.le_trans hB (HB.out _ _).size)).mono ?_
  rintro e w1 ⟨rfl, hb1⟩
  have bb := Lib.hid ((HB.out _ _).trans (hb1.mono (HB.out _ _).size))
  go_wp2_with fail
  go_ret
  exact ⟨rfl, bb.out⟩
theorem eqErrorNodeS_same (B : Nat) (A A' : Option Addr) (n c c' : Nat) (p : Er) (hn : n ≤ 9223372036854775807) (hl : p.length = n) (hsm : SmallE p 9223372036854775807) (w : World) (hr : RdE w B A p) (hr' : RdE w B A' p) (hB : B ≤ w.heap.size) :
    Calls Try.prog 49 #[.slice A n c, .slice A' n c'] w fun e w' => e = .returned (.bool true) ∧ Below w.heap.size w w' := by
  have hR := Lib.hid hr
  have hR' := Lib.hid hr'
  have hL := Lib.hid hl
  have hS := Lib.hid hsm
  clear hr hr' hl hsm
  go_enter Try.func49, Try.ntmps49
  go_wp2
  go_loopw [5] (fun i wr => ∃ k : Nat, k ≤ n ∧ i = .int .i64 k ∧ Below w.heap.size w wr) (fun i _ => n - (intOf i).toNat)
  case atStart => exact ⟨0, Nat.zero_le _, rfl, Below.refl _ _⟩
  case round =>
    obtain ⟨k, hk, rfl, hb⟩ := hrel
    by_cases hlt : k < n
    · obtain ⟨⟨s0, s1, s2⟩, hs⟩ : ∃ s, p[k]? = some s := ⟨_, List.getElem?_eq_getElem (by rw [hL.out]; exact hlt)⟩
      obtain ⟨ad, Ai, ci, rfl, hab, h0, h1, h2, h3⟩ := (hR.out.below (hb.mono hB)) k _ hs
      obtain ⟨ad', Ai', ci', rfl, hab', h0', h1', h2', h3'⟩ := (hR'.out.below (hb.mono hB)) k _ hs
      have hsz := hb.size
      have hxn : s2.length ≤ 9223372036854775807 := hS.out k _ hs
      have H3 := Lib.hid h3
      have H3' := Lib.hid h3'
      clear hs h3 h3'
      dsimp only at h0 h1 h2 h0' h1' h2'
      go_wp2_with fail
      go_region_with (go_at_call 74; refine (eqErrorNode_same B _ _ Ai Ai' s2.length ci ci' s2 hxn rfl _ (by exact H3.out) (by exact H3'.out) (by exact Nat.le_trans hB hsz)).mono ?_; rintro e w1 ⟨rfl, hb1⟩)
      all_goals
        go_wp2
        go_roundw
        case rel => exact ⟨k + 1, by omega, by go_num, hb.trans ((below_undrew hb1).mono hsz)⟩
        case measure => simp [intOf]; omega
    · go_wp2
      go_ret
      exact ⟨rfl, hb⟩
theorem eqErrors_same (B : Nat) (A A' : Option Addr) (n c c' : Nat) (p : Er) (hn : n ≤ 9223372036854775807) (hl : p.length = n) (hsm : SmallE p 9223372036854775807) (w : World) (hr : RdE w B A p) (hr' : RdE w B A' p) (hB : B ≤ w.heap.size) :
    Calls Try.prog 18 #[.agg #[.slice A n c], .agg #[.slice A' n c']] w fun e w' => e = .returned (.bool true) ∧ Below w.heap.size w w' := by
  have hR := Lib.hid hr
  have hR' := Lib.hid hr'
  have hL := Lib.hid hl
  have hS := Lib.hid hsm
  clear hr hr' hl hsm
  have hb0 : ∀ o o' : Obj, Below w.heap.size w ((w.alloc o).alloc o') := fun o o' => ((Below.refl _ _).alloc (Nat.le_refl _) _).alloc (by simp) _
  go_enter Try.func18, Try.ntmps18
  go_wp2_with fail
  refine (eqErrorNodeS_same B A A' n c c' p hn hL.out hS.out _ (by exact hR.out.below ((hb0 _ _).mono hB)) (by exact hR'.out.below ((hb0 _ _).mono hB)) (by exact Nat.le_trans hB (hb0 _ _).size)).mono ?_
  rintro e w1 ⟨rfl, hb1⟩
  go_wp2_with fail
  go_ret
  exact ⟨rfl, (hb0 _ _).trans (hb1.mono (hb0 _ _).size)⟩
end Go.Proofs.Ytkjgibhckcdneaa.ErT
