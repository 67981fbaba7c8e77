/- impl.withParts lays an error anew, with other numbers of its parts; what it is with the number behind each. -/
import Derived.Test.YtkjgibhckcdneaaErlv
import Derived.Test.YtkjgibhckcdneaaErop
namespace Go.Proofs.Ytkjgibhckcdneaa.ErF
set_option linter.unusedVariables false
set_option linter.unusedSimpArgs false
open Go.ChangeShapes Go.WideShapes Go.ChangeAt Go.RowKit
open Mem IntsP ErP ErM ErT ErA ErU ErD ErW ErL

def fitI (z : Int) : Prop := -9223372036854775808 ≤ z ∧ z ≤ 9223372036854775807
/-- The number behind, which wraps. -/
def nx (z : Int) : Int := if z = 9223372036854775807 then -9223372036854775808 else z + 1
theorem nx_fit {z : Int} (h : fitI z) : fitI (nx z) := by unfold nx fitI at *; split <;> omega
theorem nx_any (z : Int) (hz : fitI z) (w : World) : Calls Try.prog 76 #[.int .i64 z] w fun e w' => e = .returned (.int .i64 (nx z)) ∧ w = w' := by
  unfold fitI at hz
  by_cases h : z = 9223372036854775807
  · subst h
    have hs := Lib.hid (show nx 9223372036854775807 = -9223372036854775808 from rfl)
    go_enter Try.func76, Try.ntmps76
    go_wp2
    go_ret
    exact ⟨by rw [hs.out]; exact congrArg (fun z => Ending.returned (.int .i64 z)) (show wrap64 9223372036854775808 = -9223372036854775808 by unfold wrap64; omega), rfl⟩
  · have hs := Lib.hid (show nx z = z + 1 by unfold nx; rw [if_neg h])
    have h2 : z + 1 ≤ 9223372036854775807 := by omega
    clear h
    go_enter Try.func76, Try.ntmps76
    go_wp2
    go_ret
    exact ⟨by rw [hs.out]; rfl, rfl⟩

def NodeR (k d : Int) (ys : List Int) (m : Nat) (w : World) (e : Ending) (w' : World) : Prop :=
  ∃ g, e = .returned (.agg #[.int .i64 k, .int .i64 d, .slice (some ⟨g, 0, none⟩) m m]) ∧ w.heap.size ≤ g ∧ w'.ownsRow w.heap.size 3 1 (.slice (some ⟨g, 0, none⟩) m m) m (cellsI ys) ∧ Below w.heap.size w w'
set_option maxRecDepth 100000 in
set_option maxHeartbeats 2000000 in
theorem partsF_any (B : Nat) (k d : Int) (A : Option Addr) (m c : Nat) (xs : List Int) (hm : m ≤ 2000000) (hl : xs.length = m) (hf : ∀ (j : Nat) (z : Int), xs[j]? = some z → fitI z) (w : World) (hr : RdI w B A xs) (hB : B ≤ w.heap.size) :
    Calls Try.prog 68 #[.agg #[.int .i64 k, .int .i64 d, .slice A m c], .func (.func 76) #[] #[]] w (NodeR k d (xs.map nx) m w) := by
  obtain ⟨i0, hi, hz0, hz1, hz2⟩ := info_parts info3
  have hmk := fun W => run_make_rowN (P := Try.prog) 33 3 i0 _ Try.underlying33 hi hz0 .i64 .i64 m m (Nat.le_refl _) (by rw [hz2]; omega) (by omega) W
  have hR := Lib.hid hr
  have hL := Lib.hid hl
  have hF := Lib.hid hf
  clear hi hz0 hz2 hr hl hf
  rw [hz1] at hmk
  go_enter Try.func68, Try.ntmps68
  go_wp2_with fail
  obtain ⟨g, hg⟩ : ∃ g, w.heap.size + 1 + 1 = g := ⟨_, rfl⟩
  obtain ⟨w2, hw2⟩ : ∃ w2, ((w.alloc (.cells #[.int .i64 k, .int .i64 d, .slice A m c] 55)).alloc (.cells #[.int .i64 0, .int .i64 0, .slice none 0 0] 55)).alloc (.cells (madeCells #[Value.int .i64 0] m) 3) = w2 := ⟨_, rfl⟩
  have hA : Arr w2 g m (List.replicate m 0) := by rw [← hw2, ← hg]; have := Arr.new (w := (w.alloc (.cells #[.int .i64 k, .int .i64 d, .slice A m c] 55)).alloc (.cells #[.int .i64 0, .int .i64 0, .slice none 0 0] 55)) (n := m) hm; simpa using this
  have bb2 : Below w.heap.size w w2 := by rw [← hw2]; exact (((Below.refl _ _).alloc (Nat.le_refl _) _).alloc (by simp) _).alloc (by simp; omega) _
  have x0 : Blk w2 w.heap.size 55 #[.int .i64 k, .int .i64 d, .slice A m c] := by rw [← hw2]; exact heap3_0 _ _ _ _
  have x1 : Blk w2 (w.heap.size + 1) 55 #[.int .i64 0, .int .i64 0, .slice none 0 0] := by rw [← hw2]; exact heap3_1 _ _ _ _
  have R2 := Lib.hid (hR.out.below (bb2.mono hB))
  rw [hw2, hg]
  have HA := Lib.hid hA
  have BB2 := Lib.hid bb2
  have X0 := Lib.hid x0
  have X1 := Lib.hid x1
  have l2 := x1.lt
  have lg : w.heap.size + 1 < g := by omega
  have lg2 : g < w2.heap.size := by rw [← hw2, ← hg]; simp
  clear hw2 hg hA bb2 x0 x1 hR
  go_loopw [15] (fun i wr => ∃ j : Nat, j ≤ m ∧ i = .int .i64 j ∧ Arr wr g m ((xs.map nx).take j ++ List.replicate (m - j) 0) ∧ Chg (fun b => b = g) w2 wr) (fun i _ => m - (intOf i).toNat)
  case atStart => exact ⟨0, Nat.zero_le _, rfl, by simpa using HA.out, Chg.refl _ _⟩
  case round =>
    obtain ⟨j, hj, rfl, hA, hch⟩ := hrel
    have HA2 := Lib.hid hA
    have HC := Lib.hid hch
    have Rr := Lib.hid (rdI_chg R2.out hch (by omega) (fun b hb => by omega))
    clear hA hch
    by_cases hjl : j < m
    · obtain ⟨z, hz⟩ : ∃ z, xs[j]? = some z := ⟨_, List.getElem?_eq_getElem (by rw [hL.out]; exact hjl)⟩
      obtain ⟨ad, rfl, hab, h0⟩ := Rr.out j _ hz
      obtain ⟨e1, e2⟩ := HA2.out.at hjl
      have HN := Lib.hid (nx_any z (hF.out j z hz) wr)
      have hset := set_prefixI (xs.map nx) 0 (nx z) j m (by rw [List.length_map]; exact hL.out) (by rw [List.getElem?_map, hz]; rfl)
      have HS := Lib.hid hset
      clear hz hset
      go_wp2_with fail
      refine HN.out.mono ?_
      rintro e w3 ⟨rfl, rfl⟩
      go_wp2_with fail
      go_roundw
      case rel =>
        refine ⟨j + 1, by omega, by go_num, ?_, HC.out.put ⟨g, j, none⟩ _ (.inr rfl)⟩
        rw [← HS.out]
        exact HA2.out.set j (nx z)
      case measure => simp [intOf]; omega
    · obtain rfl : j = m := by omega
      have z0 : wr.cell? ⟨w.heap.size, 0, none⟩ = some (.int .i64 k) := (X0.out.chg HC.out (by omega)).cells 0
      have z1 : wr.cell? ⟨w.heap.size, 1, none⟩ = some (.int .i64 d) := (X0.out.chg HC.out (by omega)).cells 1
      have y0 : wr.cell? ⟨w.heap.size + 1, 0, none⟩ = some (.int .i64 0) := (X1.out.chg HC.out (by omega)).cells 0
      have y1 : wr.cell? ⟨w.heap.size + 1, 1, none⟩ = some (.int .i64 0) := (X1.out.chg HC.out (by omega)).cells 1
      have y2 : wr.cell? ⟨w.heap.size + 1, 2, none⟩ = some (.slice none 0 0) := (X1.out.chg HC.out (by omega)).cells 2
      have f1 := (X1.out.chg HC.out (by omega)).frozen
      have hfin : Arr wr g j (xs.map nx) := by
        have := HA2.out
        rwa [List.take_of_length_le (by rw [List.length_map, hL.out]; exact Nat.le_refl _), Nat.sub_self, List.replicate_zero, List.append_nil] at this
      have HFin := Lib.hid hfin
      have sz := HC.out.size
      clear hfin
      go_wp2_with fail
      refine bodyPost_ret (v := .agg #[.int .i64 k, .int .i64 d, .slice (some ⟨g, 0, none⟩) j j]) (by simp [results, Try.results68, go_sem, y0, y1, y2]) rfl ⟨g, rfl, by omega, ?_, ?_⟩
      · have hc := (((Chg.refl (fun b => b = w.heap.size + 1) wr).put ⟨w.heap.size + 1, 0, none⟩ (.int .i64 k) (.inr rfl)).put ⟨w.heap.size + 1, 1, none⟩ (.int .i64 d) (.inr rfl)).put ⟨w.heap.size + 1, 2, none⟩ (.slice (some ⟨g, 0, none⟩) j j) (.inr rfl)
        exact own_mono (HFin.out.chg hc (by omega)).2 (by omega)
      · exact (((BB2.out.trans (HC.out.below (by have := BB2.out.size; omega) (fun b hb => by omega))).setCell (p := ⟨w.heap.size + 1, 0, none⟩) (by show w.heap.size ≤ w.heap.size + 1; omega) _).setCell (p := ⟨w.heap.size + 1, 1, none⟩) (by show w.heap.size ≤ w.heap.size + 1; omega) _).setCell (p := ⟨w.heap.size + 1, 2, none⟩) (by show w.heap.size ≤ w.heap.size + 1; omega) _
end Go.Proofs.Ytkjgibhckcdneaa.ErF
