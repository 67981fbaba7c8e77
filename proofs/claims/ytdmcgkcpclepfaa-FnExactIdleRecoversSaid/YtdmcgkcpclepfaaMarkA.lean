import Derived.Test.YtdmcgkcpclepfaaRowA
import Derived.Deep.LoopGhost
set_option linter.all false
namespace Go.Proofs.Ytdmcgkcpclepfaa.RowA
open Lib (hid)
open Go.ChangeShapes Go.WideShapes Go.ChangeAt Go.RowKit
open PL Mem Srun Sst IntsP
def mid (wr : World) (g j : Nat) (m : Int) : Nat → World
 | 0 => wr
 | 1 => wr.setCell ⟨g, j * 2, none⟩ (.int .i64 m)
 | _ => (wr.setCell ⟨g, j * 2, none⟩ (.int .i64 m)).setCell ⟨g, j * 2 + 1, none⟩ (.int .i64 (m + 1))
def MarkedA (B n c : Nat) (A : Option Addr) (k : Int) (w : World) (e : Ending) (w' : World) : Prop :=
 e = .returned (.int .i64 (k + 2 * n)) ∧ w'.ownsRow B 85 2 (.slice A n c) n (cells2 (marksA k n)) ∧ Chg (fun b => (Value.slice A n c).ownBlock = some b) w w'
set_option maxHeartbeats 4000000 in
theorem markIntA2S_any (B n c : Nat) (A : Option Addr) (xs : List Pr) (k : Int) (hn : n ≤ 2000000) (hl : xs.length = n) (hk0 : 0 ≤ k) (hk : k ≤ 20000000000) (w : World)
  (ho : w.ownsRow B 85 2 (.slice A n c) n (cells2 xs)) :
  Calls Try.prog 43 #[.slice A n c, .int .i64 k] w (MarkedA B n c A k w) := by
 have hO0 := hid ho
 have hL := hid hl
 clear ho hl
 go_enter Try.func43, Try.ntmps43
 go_wp2
 go_loopg [1, 5] n (fun kk v i wr => ∃ (j : Nat) (m : Int), j ≤ n ∧ n - j = kk ∧ i = .int .i64 j ∧ v = .int .i64 m ∧ 0 ≤ m ∧ m ≤ 20000000000 + 2 * j ∧ Hid (m = k + 2 * j) ∧ wr.ownsRow B 85 2 (.slice A n c) n (cells2 (marksA k j ++ xs.drop j)) ∧
   Chg (fun b => (Value.slice A n c).ownBlock = some b) w wr)
 case atStart => exact ⟨0, k, Nat.zero_le _, by omega, rfl, rfl, hk0, by omega, hid (by omega), by simpa [marksA] using hO0.out, Chg.refl _ _⟩
 case round =>
  obtain ⟨j, m, hj, hkk, rfl, rfl, m0, m1, hM, hown, hch⟩ := hrel
  have m2 : m ≤ 37000000000 := by omega
  have HK := hid hkk
  clear hkk
  by_cases hlt : j < n
  ·have hO := hid hown
   have hC := hid hch
   rcases own_form hown with ⟨h0, _⟩ | ⟨_, g, cap, hv, _, hg⟩
   ·omega
   ·simp only [Value.slice.injEq, true_and] at hv
    obtain ⟨rfl, rfl⟩ := hv
    obtain ⟨s, hs⟩ : ∃ s, (marksA k j ++ xs.drop j)[j]? = some s := ⟨_, List.getElem?_eq_getElem (by rw [List.length_append, marksA_length, List.length_drop, hL.out]; omega)⟩
    obtain ⟨g0, g1⟩ := own_cell2 hown hs
    have HS := hid hs
    have f := hown.frozenAt
    clear hown hch hs
    go_wp2_with fail
    go_loopg [1, 6] 2 (fun kk v i wi => ∃ q : Nat, q ≤ 2 ∧ 2 - q = kk ∧ i = .int .i64 q ∧ v = .int .i64 (m + q) ∧ wi = mid wr g j m q)
    case atStart => exact ⟨0, by omega, rfl, rfl, by simp, rfl⟩
    case round =>
     obtain ⟨q, hq, hqk, rfl, rfl, rfl⟩ := hrel
     have HQ := hid hqk
     clear hqk
     have h3 : q = 0 ∨ q = 1 ∨ q = 2 := by omega
     rcases h3 with rfl | rfl | rfl
     ·unfold mid
      go_wp2_with fail
      go_roundg 1
      case measure => have := HQ.out; omega
      case rel => exact ⟨1, by omega, rfl, rfl, by go_num, rfl⟩
     ·unfold mid
      go_wp2_with fail
      go_roundg 0
      case measure => have := HQ.out; omega
      case rel => exact ⟨2, by omega, rfl, rfl, by go_num, rfl⟩
     ·unfold mid
      go_wp2_with fail
      go_roundg (n - (j + 1))
      case measure => have := HK.out; omega
      case rel =>
       refine ⟨j + 1, m + 1 + 1, by omega, rfl, by go_num, by go_num, by omega, by omega, hid (by rw [hM.out]; omega), ?_, ?_⟩
       ·rw [← marksA_set k xs j (by rw [hL.out]; exact hlt), ← hM.out]
        exact own_set2 hO.out HS.out (mkA m)
       ·refine Chg.put (Chg.put hC.out _ _ ?_) _ _ ?_ <;> exact .inr rfl
  ·obtain rfl : j = n := by omega
   have hO := hid hown
   have hC := hid hch
   clear hown hch
   go_wp2_with fail
   go_ret
   refine ⟨by rw [hM.out]; rfl, ?_, hC.out⟩
   have := hO.out
   rwa [List.drop_eq_nil_of_le (by rw [hL.out]; omega), List.append_nil] at this
set_option maxHeartbeats 4000000 in
theorem heldIntA2S_any (B n c : Nat) (A : Option Addr) (k : Int) (hn : n ≤ 2000000) (hk0 : 0 ≤ k) (hk : k ≤ 20000000000) (w : World) (hr : RdA w B A (marksA k n)) :
  Calls Try.prog 44 #[.slice A n c, .int .i64 k] w fun e w' => e = .returned (.int .i64 (k + 2 * n)) ∧ w = w' := by
 have hR := hid hr
 clear hr
 go_enter Try.func44, Try.ntmps44
 go_wp2
 go_loopg [1, 5] n (fun kk v i wr => ∃ (j : Nat) (m : Int), j ≤ n ∧ n - j = kk ∧ i = .int .i64 j ∧ v = .int .i64 m ∧ 0 ≤ m ∧ m ≤ 20000000000 + 2 * j ∧ Hid (m = k + 2 * j) ∧ wr = w)
 case atStart => exact ⟨0, k, Nat.zero_le _, by omega, rfl, rfl, hk0, by omega, hid (by omega), rfl⟩
 case round =>
  obtain ⟨j, m, hj, hkk, rfl, rfl, m0, m1, hM, rfl⟩ := hrel
  have m2 : m ≤ 37000000000 := by omega
  have HK := hid hkk
  clear hkk
  by_cases hlt : j < n
  ·have hs := marksA_at k n j hlt
   rw [← hM.out] at hs
   obtain ⟨ad, rfl, hab, h0, h1⟩ := hR.out j _ hs
   clear hs
   dsimp only [mkA] at h0 h1
   go_wp2_with fail
   go_loopg [1, 6] 2 (fun kk v i wi => ∃ q : Nat, q ≤ 2 ∧ 2 - q = kk ∧ i = .int .i64 q ∧ v = .int .i64 (m + q) ∧ wi = wr)
   case atStart => exact ⟨0, by omega, rfl, rfl, by simp, rfl⟩
   case round =>
    obtain ⟨q, hq, hqk, rfl, rfl, rfl⟩ := hrel
    have HQ := hid hqk
    clear hqk
    have h3 : q = 0 ∨ q = 1 ∨ q = 2 := by omega
    rcases h3 with rfl | rfl | rfl
    ·go_wp2_with fail
     go_roundg 1
     case measure => have := HQ.out; omega
     case rel => exact ⟨1, by omega, rfl, rfl, by go_num, rfl⟩
    ·go_wp2_with fail
     go_roundg 0
     case measure => have := HQ.out; omega
     case rel => exact ⟨2, by omega, rfl, rfl, by go_num, rfl⟩
    ·go_wp2_with fail
     go_roundg (n - (j + 1))
     case measure => have := HK.out; omega
     case rel => exact ⟨j + 1, m + 1 + 1, by omega, rfl, by go_num, by go_num, by omega, by omega, hid (by rw [hM.out]; omega), rfl⟩
  ·obtain rfl : j = n := by omega
   go_wp2_with fail
   go_ret
   exact ⟨by rw [hM.out]; rfl, rfl⟩
end Go.Proofs.Ytdmcgkcpclepfaa.RowA
-- squeezed
