/- Lists of three integers each in memory: the laws' comparing, numbering and reading back. (Written by wip/tools/genlawt.py.) -/
import Derived.Test.YtgcjlkdahlfjlaaIpm
import Derived.Test.YtgcjlkdahlfjlaaM21
import Derived.Deep.LoopGhost
import Derived.Deep.RegionHeld3
import Derived.Deep.RegionWith
import Derived.BigQuiet
import Derived.Deep.Cut
namespace Go.Proofs.Ytgcjlkdahlfjlaa.RowT
set_option linter.unusedVariables false
set_option linter.unusedSimpArgs false
open Go.ChangeShapes Go.WideShapes Go.ChangeAt Go.RowKit
open PL Mem Srun Sst IntsP PMem Ipm

theorem c3_len' (s : Tr) : (c3 s).length = 3 := rfl
theorem own_cell3 {w : World} {B e n g c : Nat} {xs : List Tr} (h : w.ownsRow B e 3 (.slice (some ⟨g, 0, none⟩) n c) n (cells3 xs)) {j : Nat} {s : Tr} (hs : xs[j]? = some s) :
  w.cell? ⟨g, j * 3, none⟩ = some (.int .i64 s.1) ∧ w.cell? ⟨g, j * 3 + 1, none⟩ = some (.int .i64 s.2.1) ∧ w.cell? ⟨g, j * 3 + 2, none⟩ = some (.int .i64 s.2.2) := by
 have hn : xs.length = n := by have := h.1; rw [cells3_length] at this; omega
 exact ⟨row_at c3_len' h hs (o := 0) (by decide) hn, row_at c3_len' h hs (o := 1) (by decide) hn, row_at c3_len' h hs (o := 2) (by decide) hn⟩
def mkT (m : Int) : Tr := (m, m + 1, m + 2)
def marksT (k : Int) (n : Nat) : List Tr := (List.range n).map (fun (i : Nat) => mkT (k + 3 * i))
theorem marksT_length (k : Int) (n : Nat) : (marksT k n).length = n := by simp [marksT]
theorem marksT_at (k : Int) (n i : Nat) (h : i < n) : (marksT k n)[i]? = some (mkT (k + 3 * i)) := by simp [marksT, h]
theorem marksT_succ (k : Int) (n : Nat) : marksT k (n + 1) = marksT k n ++ [mkT (k + 3 * n)] := by simp [marksT, List.range_succ]
theorem marksT_set (k : Int) (xs : List Tr) (i : Nat) (hi : i < xs.length) : (marksT k i ++ xs.drop i).set i (mkT (k + 3 * i)) = marksT k (i + 1) ++ xs.drop (i + 1) := by
 rw [List.set_append_right _ _ (by rw [marksT_length]; exact Nat.le_refl _), marksT_length, Nat.sub_self, List.drop_eq_getElem_cons hi, List.set_cons_zero, marksT_succ, List.append_assoc]
 rfl
theorem own_set3 {w : World} {B e n g cap : Nat} {xs : List Tr} (h : w.ownsRow B e 3 (.slice (some ⟨g, 0, none⟩) n cap) n (cells3 xs)) {j : Nat} {s : Tr} (hs : xs[j]? = some s) (s' : Tr) :
  (((w.setCell ⟨g, j * 3, none⟩ (.int .i64 s'.1)).setCell ⟨g, j * 3 + 1, none⟩ (.int .i64 s'.2.1)).setCell ⟨g, j * 3 + 2, none⟩ (.int .i64 s'.2.2)).ownsRow B e 3 (.slice (some ⟨g, 0, none⟩) n cap) n (cells3 (xs.set j s')) := by
 have hj : j < xs.length := (List.getElem?_eq_some_iff.1 hs).1
 have h0 := row_put c3_len' h hs 0 (.int .i64 s'.1) ((s'.1, s.2.1, s.2.2) : Tr) (by decide) rfl
 have h1 := row_put c3_len' h0 (List.getElem?_set_self hj) 1 (.int .i64 s'.2.1) ((s'.1, s'.2.1, s.2.2) : Tr) (by decide) rfl
 rw [List.set_set] at h1
 have h2 := row_put c3_len' h1 (List.getElem?_set_self hj) 2 (.int .i64 s'.2.2) s' (by decide) rfl
 rw [List.set_set] at h2
 exact h2
theorem _root_.Go.Proofs.Ytgcjlkdahlfjlaa.PMem.Own3.rd {w : World} {lo n c : Nat} {A : Option Addr} {xs : List Tr} (h : Own3 w lo (.slice A n c) xs) (hn : xs.length = n) : Rd3 w w.heap.size A xs := by
 unfold Own3 at h
 rw [hn] at h
 exact rd_own h
theorem eqIntA3_same (a b c : Int) (w : World) :
  Calls Try.prog 58 #[.agg #[.int .i64 a, .int .i64 b, .int .i64 c], .agg #[.int .i64 a, .int .i64 b, .int .i64 c]] w fun e w' => e = .returned (.bool true) ∧ Below w.heap.size w w' := by
 go_enter Try.func58, Try.ntmps58
 go_upto_region 1 with fail
 change (fun V => Code.wp _ _ _ _ V) _
 refine gen_world (X := fun V => Blk V w.heap.size 79 #[.int .i64 a, .int .i64 b, .int .i64 c] ∧ Blk V (w.heap.size + 1) 79 #[.int .i64 a, .int .i64 b, .int .i64 c] ∧ Below w.heap.size w V) ⟨heap2_0 w _ _, heap2_1 w _ _, ((Below.refl _ _).alloc (Nat.le_refl _) _).alloc (by simp) _⟩ ?_
 rintro V ⟨x0, x1, bb⟩
 generalize w.heap.size + 1 = g1 at *
 have B := Lib.hid bb
 have X0 := Lib.hid x0
 have X1 := Lib.hid x1
 clear bb x0 x1
 go_wp2_with fail
 go_loopw [5] (fun i wr => ∃ k : Nat, k ≤ 3 ∧ i = .int .i64 k ∧ Below w.heap.size w wr ∧ Blk wr w.heap.size 79 #[.int .i64 a, .int .i64 b, .int .i64 c] ∧ Blk wr g1 79 #[.int .i64 a, .int .i64 b, .int .i64 c]) (fun i _ => 3 - (intOf i).toNat)
 case atStart => exact ⟨0, Nat.zero_le _, rfl, B.out, X0.out, X1.out⟩
 case round =>
  obtain ⟨k, hk, rfl, hb, y0, y1⟩ := hrel
  clear B X0 X1
  have HB := Lib.hid (⟨hb.drew, y0, y1⟩ : Below w.heap.size w wr.drew ∧ Blk wr.drew w.heap.size 79 #[.int .i64 a, .int .i64 b, .int .i64 c] ∧ Blk wr.drew g1 79 #[.int .i64 a, .int .i64 b, .int .i64 c])
  have HB0 := Lib.hid hb
  have h3 : k = 0 ∨ k = 1 ∨ k = 2 ∨ k = 3 := by omega
  rcases h3 with rfl | rfl | rfl | rfl
  ·have p0 : wr.cell? ⟨w.heap.size, 0, none⟩ = some (.int .i64 a) := y0.cells 0
   have p1 : wr.cell? ⟨g1, 0, none⟩ = some (.int .i64 a) := y1.cells 0
   clear y0 y1 hb
   go_wp2_with fail
   go_region
   all_goals
    go_wp2_with fail
    go_roundw
    case rel => exact ⟨1, by omega, rfl, HB.out.1, HB.out.2.1, HB.out.2.2⟩
    case measure => simp [intOf]
  ·have p0 : wr.cell? ⟨w.heap.size, 1, none⟩ = some (.int .i64 b) := y0.cells 1
   have p1 : wr.cell? ⟨g1, 1, none⟩ = some (.int .i64 b) := y1.cells 1
   clear y0 y1 hb
   go_wp2_with fail
   go_region
   all_goals
    go_wp2_with fail
    go_roundw
    case rel => exact ⟨2, by omega, rfl, HB.out.1, HB.out.2.1, HB.out.2.2⟩
    case measure => simp [intOf]
  ·have p0 : wr.cell? ⟨w.heap.size, 2, none⟩ = some (.int .i64 c) := y0.cells 2
   have p1 : wr.cell? ⟨g1, 2, none⟩ = some (.int .i64 c) := y1.cells 2
   clear y0 y1 hb
   go_wp2_with fail
   go_region
   all_goals
    go_wp2_with fail
    go_roundw
    case rel => exact ⟨3, by omega, rfl, HB.out.1, HB.out.2.1, HB.out.2.2⟩
    case measure => simp [intOf]
  ·clear y0 y1 hb
   go_wp2_with fail
   go_ret
   exact ⟨rfl, HB0.out⟩
theorem eqIntA3S_same (B : Nat) (A A' : Option Addr) (n c c' : Nat) (xs : List Tr) (hn : n ≤ 9223372036854775807) (hl : xs.length = n) (w : World) (hr : Rd3 w B A xs) (hr' : Rd3 w B A' xs) (hB : B ≤ w.heap.size) :
  Calls Try.prog 19 #[.slice A n c, .slice A' n c'] w fun e w' => e = .returned (.bool true) ∧ Below w.heap.size w w' := by
 have hR := Lib.hid hr
 have hR' := Lib.hid hr'
 have hL := Lib.hid hl
 clear hr hr' hl
 go_enter Try.func19, Try.ntmps19
 go_wp2
 go_loopw [5] (fun i wr => ∃ k : Nat, k ≤ n ∧ i = .int .i64 k ∧ Below w.heap.size w wr) (fun i _ => n - (intOf i).toNat)
 case atStart => exact ⟨0, Nat.zero_le _, rfl, Below.refl _ _⟩
 case round =>
  obtain ⟨k, hk, rfl, hb⟩ := hrel
  by_cases hlt : k < n
  ·obtain ⟨⟨s0, s1, s2⟩, hs⟩ : ∃ s, xs[k]? = some s := ⟨_, List.getElem?_eq_getElem (by rw [hL.out]; exact hlt)⟩
   obtain ⟨ad, rfl, hab, h0, h1, h2⟩ := (hR.out.below (hb.mono hB)) k _ hs
   obtain ⟨ad', rfl, hab', h0', h1', h2'⟩ := (hR'.out.below (hb.mono hB)) k _ hs
   have hsz := hb.size
   clear hs
   dsimp only at h0 h1 h2 h0' h1' h2'
   go_wp2_with fail
   go_region_with (go_at_call 58; refine (eqIntA3_same _ _ _ _).mono ?_; rintro e w1 ⟨rfl, hb1⟩)
   all_goals
    go_wp2
    go_roundw
    case rel => exact ⟨k + 1, by omega, by go_num, hb.trans ((below_undrew hb1).mono hsz)⟩
    case measure => simp [intOf]; omega
  ·go_wp2
   go_ret
   exact ⟨rfl, hb⟩
def mid (wr : World) (g j : Nat) (m : Int) : Nat → World
 | 0 => wr
 | 1 => wr.setCell ⟨g, j * 3, none⟩ (.int .i64 m)
 | 2 => (wr.setCell ⟨g, j * 3, none⟩ (.int .i64 m)).setCell ⟨g, j * 3 + 1, none⟩ (.int .i64 (m + 1))
 | _ => ((wr.setCell ⟨g, j * 3, none⟩ (.int .i64 m)).setCell ⟨g, j * 3 + 1, none⟩ (.int .i64 (m + 1))).setCell ⟨g, j * 3 + 2, none⟩ (.int .i64 (m + 2))
def MarkedT (B n c : Nat) (A : Option Addr) (k : Int) (w : World) (e : Ending) (w' : World) : Prop :=
 e = .returned (.int .i64 (k + 3 * n)) ∧ w'.ownsRow B 79 3 (.slice A n c) n (cells3 (marksT k n)) ∧ Chg (fun b => (Value.slice A n c).ownBlock = some b) w w'
set_option maxHeartbeats 4000000 in
theorem markIntA3S_any (B n c : Nat) (A : Option Addr) (xs : List Tr) (k : Int) (hn : n ≤ 2000000) (hl : xs.length = n) (hk0 : 0 ≤ k) (hk : k ≤ 20000000000) (w : World)
  (ho : w.ownsRow B 79 3 (.slice A n c) n (cells3 xs)) :
  Calls Try.prog 22 #[.slice A n c, .int .i64 k] w (MarkedT B n c A k w) := by
 have hO0 := Lib.hid ho
 have hL := Lib.hid hl
 clear ho hl
 go_enter Try.func22, Try.ntmps22
 go_wp2
 go_loopg [1, 5] n (fun kk v i wr => ∃ (j : Nat) (m : Int), j ≤ n ∧ n - j = kk ∧ i = .int .i64 j ∧ v = .int .i64 m ∧ 0 ≤ m ∧ m ≤ 20000000000 + 3 * j ∧ Hid (m = k + 3 * j) ∧ wr.ownsRow B 79 3 (.slice A n c) n (cells3 (marksT k j ++ xs.drop j)) ∧
   Chg (fun b => (Value.slice A n c).ownBlock = some b) w wr)
 case atStart => exact ⟨0, k, Nat.zero_le _, by omega, rfl, rfl, hk0, by omega, Lib.hid (by omega), by simpa [marksT] using hO0.out, Chg.refl _ _⟩
 case round =>
  obtain ⟨j, m, hj, hkk, rfl, rfl, m0, m1, hM, hown, hch⟩ := hrel
  have m2 : m ≤ 37000000000 := by omega
  have HK := Lib.hid hkk
  clear hkk
  by_cases hlt : j < n
  ·have hO := Lib.hid hown
   have hC := Lib.hid hch
   rcases own_form hown with ⟨h0, _⟩ | ⟨_, g, cap, hv, _, hg⟩
   ·omega
   ·simp only [Value.slice.injEq, true_and] at hv
    obtain ⟨rfl, rfl⟩ := hv
    obtain ⟨s, hs⟩ : ∃ s, (marksT k j ++ xs.drop j)[j]? = some s := ⟨_, List.getElem?_eq_getElem (by rw [List.length_append, marksT_length, List.length_drop, hL.out]; omega)⟩
    obtain ⟨g0, g1, g2⟩ := own_cell3 hown hs
    have HS := Lib.hid hs
    have f := hown.frozenAt
    clear hown hch hs
    go_wp2_with fail
    go_loopg [1, 6] 3 (fun kk v i wi => ∃ q : Nat, q ≤ 3 ∧ 3 - q = kk ∧ i = .int .i64 q ∧ v = .int .i64 (m + q) ∧ wi = mid wr g j m q)
    case atStart => exact ⟨0, by omega, rfl, rfl, by simp, rfl⟩
    case round =>
     obtain ⟨q, hq, hqk, rfl, rfl, rfl⟩ := hrel
     have HQ := Lib.hid hqk
     clear hqk
     have h3 : q = 0 ∨ q = 1 ∨ q = 2 ∨ q = 3 := by omega
     rcases h3 with rfl | rfl | rfl | rfl
     ·unfold mid
      go_wp2_with fail
      go_roundg 2
      case measure => have := HQ.out; omega
      case rel => exact ⟨1, by omega, rfl, rfl, by go_num, rfl⟩
     ·unfold mid
      go_wp2_with fail
      go_roundg 1
      case measure => have := HQ.out; omega
      case rel => exact ⟨2, by omega, rfl, rfl, by go_num, rfl⟩
     ·unfold mid
      go_wp2_with fail
      go_roundg 0
      case measure => have := HQ.out; omega
      case rel => exact ⟨3, by omega, rfl, rfl, by go_num, rfl⟩
     ·unfold mid
      go_wp2_with fail
      go_roundg (n - (j + 1))
      case measure => have := HK.out; omega
      case rel =>
       refine ⟨j + 1, m + 3, by omega, rfl, by go_num, by go_num, by omega, by omega, Lib.hid (by rw [hM.out]; omega), ?_, ?_⟩
       ·rw [← marksT_set k xs j (by rw [hL.out]; exact hlt), ← hM.out]
        exact own_set3 hO.out HS.out (mkT m)
       ·refine Chg.put (Chg.put (Chg.put hC.out _ _ ?_) _ _ ?_) _ _ ?_ <;> exact .inr rfl
  ·obtain rfl : j = n := by omega
   have hO := Lib.hid hown
   have hC := Lib.hid hch
   clear hown hch
   go_wp2_with fail
   go_ret
   refine ⟨by rw [hM.out]; rfl, ?_, hC.out⟩
   have := hO.out
   rwa [List.drop_eq_nil_of_le (by rw [hL.out]; omega), List.append_nil] at this
set_option maxHeartbeats 4000000 in
theorem heldIntA3S_any (B n c : Nat) (A : Option Addr) (k : Int) (hn : n ≤ 2000000) (hk0 : 0 ≤ k) (hk : k ≤ 20000000000) (w : World) (hr : Rd3 w B A (marksT k n)) :
  Calls Try.prog 23 #[.slice A n c, .int .i64 k] w fun e w' => e = .returned (.int .i64 (k + 3 * n)) ∧ w = w' := by
 have hR := Lib.hid hr
 clear hr
 go_enter Try.func23, Try.ntmps23
 go_wp2
 go_loopg [1, 5] n (fun kk v i wr => ∃ (j : Nat) (m : Int), j ≤ n ∧ n - j = kk ∧ i = .int .i64 j ∧ v = .int .i64 m ∧ 0 ≤ m ∧ m ≤ 20000000000 + 3 * j ∧ Hid (m = k + 3 * j) ∧ wr = w)
 case atStart => exact ⟨0, k, Nat.zero_le _, by omega, rfl, rfl, hk0, by omega, Lib.hid (by omega), rfl⟩
 case round =>
  obtain ⟨j, m, hj, hkk, rfl, rfl, m0, m1, hM, rfl⟩ := hrel
  have m2 : m ≤ 37000000000 := by omega
  have HK := Lib.hid hkk
  clear hkk
  by_cases hlt : j < n
  ·have hs := marksT_at k n j hlt
   rw [← hM.out] at hs
   obtain ⟨ad, rfl, hab, h0, h1, h2⟩ := hR.out j _ hs
   clear hs
   dsimp only [mkT] at h0 h1 h2
   go_wp2_with fail
   go_loopg [1, 6] 3 (fun kk v i wi => ∃ q : Nat, q ≤ 3 ∧ 3 - q = kk ∧ i = .int .i64 q ∧ v = .int .i64 (m + q) ∧ wi = wr)
   case atStart => exact ⟨0, by omega, rfl, rfl, by simp, rfl⟩
   case round =>
    obtain ⟨q, hq, hqk, rfl, rfl, rfl⟩ := hrel
    have HQ := Lib.hid hqk
    clear hqk
    have h3 : q = 0 ∨ q = 1 ∨ q = 2 ∨ q = 3 := by omega
    rcases h3 with rfl | rfl | rfl | rfl
    ·go_wp2_with fail
     go_roundg 2
     case measure => have := HQ.out; omega
     case rel => exact ⟨1, by omega, rfl, rfl, by go_num, rfl⟩
    ·go_wp2_with fail
     go_roundg 1
     case measure => have := HQ.out; omega
     case rel => exact ⟨2, by omega, rfl, rfl, by go_num, rfl⟩
    ·go_wp2_with fail
     go_roundg 0
     case measure => have := HQ.out; omega
     case rel => exact ⟨3, by omega, rfl, rfl, by go_num, rfl⟩
    ·go_wp2_with fail
     go_roundg (n - (j + 1))
     case measure => have := HK.out; omega
     case rel => exact ⟨j + 1, m + 3, by omega, rfl, by go_num, by go_num, by omega, by omega, Lib.hid (by rw [hM.out]; omega), rfl⟩
  ·obtain rfl : j = n := by omega
   go_wp2_with fail
   go_ret
   exact ⟨by rw [hM.out]; rfl, rfl⟩
end Go.Proofs.Ytgcjlkdahlfjlaa.RowT
-- squeezed
