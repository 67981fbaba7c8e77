/- The closure of impl.PruneErrors and impl.withParts with it: a part's place among the errors that are kept. -/
import Derived.Test.YtkjgibhckcdneaaErwf
import Derived.Test.YtkjgibhckcdneaaErqp
namespace Go.Proofs.Ytkjgibhckcdneaa.ErQ
set_option linter.unusedVariables false
set_option linter.unusedSimpArgs false
open Go.ChangeShapes Go.WideShapes Go.ChangeAt Go.RowKit
open Mem IntsP ErP ErM ErT ErA ErU ErD ErW ErL ErF

theorem indexI_any (B : Nat) (A : Option Addr) (m c : Nat) (xs : List Int) (z : Int) (r : Nat) (hm : m ≤ 2000000) (hl : xs.length = m) (hr1 : xs[r]? = some z) (hr2 : ∀ j y, j < r → xs[j]? = some y → y ≠ z) (w : World) (hr : RdI w B A xs) :
    Calls Try.prog 67 #[.slice A m c, .int .i64 z] w fun e w' => e = .returned (.int .i64 r) ∧ w = w' := by
  have hR := Lib.hid hr
  have hL := Lib.hid hl
  have H1 := Lib.hid hr1
  have H2 := Lib.hid hr2
  have hrm : r < m := by rw [← hl]; exact (List.getElem?_eq_some_iff.1 hr1).1
  clear hr hl hr1 hr2
  go_enter Try.func67, Try.ntmps67
  go_wp2_with fail
  go_loop [8] (fun i => ∃ j : Nat, j ≤ r ∧ i = .int .i64 j) (fun i => m - (intOf i).toNat)
  case atStart => exact ⟨0, Nat.zero_le _, rfl⟩
  case round =>
    obtain ⟨j, hj, rfl⟩ := hrel
    have hjm : j < m := by omega
    obtain ⟨y, hy⟩ : ∃ y, xs[j]? = some y := ⟨_, List.getElem?_eq_getElem (by rw [hL.out]; exact hjm)⟩
    obtain ⟨ad, rfl, hab, d0⟩ := hR.out j y hy
    by_cases hjr : j = r
    · subst hjr
      obtain rfl : z = y := by rw [H1.out] at hy; simpa using hy
      clear hy
      go_wp2_with fail
      go_ret
      exact ⟨rfl, rfl⟩
    · have hne : (z == y) = false := by rw [beq_eq_false_iff_ne]; exact fun e => H2.out j y (by omega) hy e.symm
      clear hy
      go_wp2_with fail
      go_round
      case rel => exact ⟨j + 1, by omega, by go_num⟩
      case measure => simp [intOf]; omega
theorem place_any (B b : Nat) (A : Option Addr) (m c n q : Nat) (a : List Int) (hm : m ≤ 2000000) (hl : rkE a n = m) (hq : 0 < getI a q) (hqn : q < n) (w : World) (hr : RdI w B A (keptE a n)) (hb : w.cell? ⟨b, 0, none⟩ = some (.slice A m c)) :
    Calls Try.prog 66 #[.int .i64 q, .pointer (some ⟨b, 0, none⟩)] w fun e w' => e = .returned (.int .i64 (newE a q)) ∧ w = w' := by
  obtain ⟨h1, h2⟩ := kept_at hq hqn
  have HI := Lib.hid (indexI_any B A m c (keptE a n) q (rkE a q) hm (by rw [kept_len]; exact hl) h1 (fun j y hj hy => h2 j y hj hy) w hr)
  have hs := Lib.hid (show newE a q = (rkE a q : Int) by unfold newE; rw [Int.toNat_natCast])
  clear h1 h2 hr hq hl
  go_enter Try.func66, Try.ntmps66
  go_wp2_with fail
  refine HI.out.mono ?_
  rintro e w1 ⟨rfl, rfl⟩
  go_wp2_with fail
  go_ret
  exact ⟨by rw [hs.out]; rfl, rfl⟩
set_option maxRecDepth 100000 in
set_option maxHeartbeats 2000000 in
theorem partsG_any (B : Nat) (k d : Int) (A : Option Addr) (m c : Nat) (xs : List Int) (hm : m ≤ 2000000) (hl : xs.length = m) (a : List Int) (n bk : Nat) (Ak : Option Addr) (mk ck : Nat) (hmk : mk ≤ 2000000) (hrk : rkE a n = mk) (hf : ∀ (j : Nat) (z : Int), xs[j]? = some z → ∃ q : Nat, z = q ∧ q < n ∧ 0 < getI a q) (w : World) (hkr : RdI w w.heap.size Ak (keptE a n)) (hbk : Blk w bk 33 #[.slice Ak mk ck]) (hr : RdI w B A xs) (hB : B ≤ w.heap.size) :
    Calls Try.prog 68 #[.agg #[.int .i64 k, .int .i64 d, .slice A m c], .func (.func 66) #[] #[.pointer (some ⟨bk, 0, none⟩)]] w (NodeR k d (xs.map (newE a)) m w) := by
  obtain ⟨i0, hi, hz0, hz1, hz2⟩ := info_parts info3
  have hmake := fun W => run_make_rowN (P := Try.prog) 33 3 i0 _ Try.underlying33 hi hz0 .i64 .i64 m m (Nat.le_refl _) (by rw [hz2]; omega) (by omega) W
  have hR := Lib.hid hr
  have hL := Lib.hid hl
  have hF := Lib.hid hf
  have HKR := Lib.hid hkr
  have HBK := Lib.hid hbk
  clear hi hz0 hz2 hr hl hf hkr hbk
  rw [hz1] at hmake
  go_enter Try.func68, Try.ntmps68
  go_wp2_with fail
  obtain ⟨g, hg⟩ : ∃ g, w.heap.size + 1 + 1 = g := ⟨_, rfl⟩
  obtain ⟨w2, hw2⟩ : ∃ w2, ((w.alloc (.cells #[.int .i64 k, .int .i64 d, .slice A m c] 55)).alloc (.cells #[.int .i64 0, .int .i64 0, .slice none 0 0] 55)).alloc (.cells (madeCells #[Value.int .i64 0] m) 3) = w2 := ⟨_, rfl⟩
  have hA : Arr w2 g m (List.replicate m 0) := by rw [← hw2, ← hg]; have := Arr.new (w := (w.alloc (.cells #[.int .i64 k, .int .i64 d, .slice A m c] 55)).alloc (.cells #[.int .i64 0, .int .i64 0, .slice none 0 0] 55)) (n := m) hm; simpa using this
  have bb2 : Below w.heap.size w w2 := by rw [← hw2]; exact (((Below.refl _ _).alloc (Nat.le_refl _) _).alloc (by simp) _).alloc (by simp; omega) _
  have x0 : Blk w2 w.heap.size 55 #[.int .i64 k, .int .i64 d, .slice A m c] := by rw [← hw2]; exact heap3_0 _ _ _ _
  have x1 : Blk w2 (w.heap.size + 1) 55 #[.int .i64 0, .int .i64 0, .slice none 0 0] := by rw [← hw2]; exact heap3_1 _ _ _ _
  have R2 := Lib.hid (hR.out.below (bb2.mono hB))
  have K2 := Lib.hid (HKR.out.below bb2)
  have BK2 := Lib.hid (HBK.out.below bb2 HBK.out.lt)
  have lbk := HBK.out.lt
  rw [hw2, hg]
  have HA := Lib.hid hA
  have BB2 := Lib.hid bb2
  have X0 := Lib.hid x0
  have X1 := Lib.hid x1
  have l2 := x1.lt
  have lg : w.heap.size + 1 < g := by omega
  have lg2 : g < w2.heap.size := by rw [← hw2, ← hg]; simp
  clear hw2 hg hA bb2 x0 x1 hR
  go_loopw [15] (fun i wr => ∃ j : Nat, j ≤ m ∧ i = .int .i64 j ∧ Arr wr g m ((xs.map (newE a)).take j ++ List.replicate (m - j) 0) ∧ Chg (fun b => b = g) w2 wr) (fun i _ => m - (intOf i).toNat)
  case atStart => exact ⟨0, Nat.zero_le _, rfl, by simpa using HA.out, Chg.refl _ _⟩
  case round =>
    obtain ⟨j, hj, rfl, hA, hch⟩ := hrel
    have HA2 := Lib.hid hA
    have HC := Lib.hid hch
    have Rr := Lib.hid (rdI_chg R2.out hch (by omega) (fun b hb => by omega))
    clear hA hch
    by_cases hjl : j < m
    · obtain ⟨z, hz⟩ : ∃ z, xs[j]? = some z := ⟨_, List.getElem?_eq_getElem (by rw [hL.out]; exact hjl)⟩
      obtain ⟨ad, rfl, hab, h0⟩ := Rr.out j _ hz
      obtain ⟨e1, e2⟩ := HA2.out.at hjl
      obtain ⟨qz, rfl, hqz1, hqz2⟩ := hF.out j z hz
      have HN := Lib.hid (place_any w.heap.size bk Ak mk ck n qz a hmk hrk hqz2 hqz1 wr (rdI_chg K2.out HC.out (by omega) (fun b hb => by omega)) ((BK2.out.chg HC.out (by omega)).cells 0))
      have hset := set_prefixI (xs.map (newE a)) 0 (newE a (qz : Int)) j m (by rw [List.length_map]; exact hL.out) (by rw [List.getElem?_map, hz]; rfl)
      have HS := Lib.hid hset
      clear hz hset
      go_wp2_with fail
      refine HN.out.mono ?_
      rintro e w3 ⟨rfl, rfl⟩
      go_wp2_with fail
      go_roundw
      case rel =>
        refine ⟨j + 1, by omega, by go_num, ?_, HC.out.put ⟨g, j, none⟩ _ (.inr rfl)⟩
        rw [← HS.out]
        exact HA2.out.set j (newE a (qz : Int))
      case measure => simp [intOf]; omega
    · obtain rfl : j = m := by omega
      have z0 : wr.cell? ⟨w.heap.size, 0, none⟩ = some (.int .i64 k) := (X0.out.chg HC.out (by omega)).cells 0
      have z1 : wr.cell? ⟨w.heap.size, 1, none⟩ = some (.int .i64 d) := (X0.out.chg HC.out (by omega)).cells 1
      have y0 : wr.cell? ⟨w.heap.size + 1, 0, none⟩ = some (.int .i64 0) := (X1.out.chg HC.out (by omega)).cells 0
      have y1 : wr.cell? ⟨w.heap.size + 1, 1, none⟩ = some (.int .i64 0) := (X1.out.chg HC.out (by omega)).cells 1
      have y2 : wr.cell? ⟨w.heap.size + 1, 2, none⟩ = some (.slice none 0 0) := (X1.out.chg HC.out (by omega)).cells 2
      have f1 := (X1.out.chg HC.out (by omega)).frozen
      have hfin : Arr wr g j (xs.map (newE a)) := by
        have := HA2.out
        rwa [List.take_of_length_le (by rw [List.length_map, hL.out]; exact Nat.le_refl _), Nat.sub_self, List.replicate_zero, List.append_nil] at this
      have HFin := Lib.hid hfin
      have sz := HC.out.size
      clear hfin
      go_wp2_with fail
      refine bodyPost_ret (v := .agg #[.int .i64 k, .int .i64 d, .slice (some ⟨g, 0, none⟩) j j]) (by simp [results, Try.results68, go_sem, y0, y1, y2]) rfl ⟨g, rfl, by omega, ?_, ?_⟩
      · have hc := (((Chg.refl (fun b => b = w.heap.size + 1) wr).put ⟨w.heap.size + 1, 0, none⟩ (.int .i64 k) (.inr rfl)).put ⟨w.heap.size + 1, 1, none⟩ (.int .i64 d) (.inr rfl)).put ⟨w.heap.size + 1, 2, none⟩ (.slice (some ⟨g, 0, none⟩) j j) (.inr rfl)
        exact own_mono (HFin.out.chg hc (by omega)).2 (by omega)
      · exact (((BB2.out.trans (HC.out.below (by have := BB2.out.size; omega) (fun b hb => by omega))).setCell (p := ⟨w.heap.size + 1, 0, none⟩) (by show w.heap.size ≤ w.heap.size + 1; omega) _).setCell (p := ⟨w.heap.size + 1, 1, none⟩) (by show w.heap.size ≤ w.heap.size + 1; omega) _).setCell (p := ⟨w.heap.size + 1, 2, none⟩) (by show w.heap.size ≤ w.heap.size + 1; omega) _
end Go.Proofs.Ytkjgibhckcdneaa.ErQ
