/- Writing numbers over calls and reading them back, as the laws do. -/
import Derived.Test.YteagmmmniffibaaM19
namespace Go.Proofs.Yteagmmmniffibaa.RowC
set_option linter.unusedVariables false
set_option linter.unusedSimpArgs false
open Go.ChangeShapes Go.WideShapes Go.ChangeAt Go.RowKit
open PL Mem IntsP

def mkCI (m : Int) : CI := ⟨m, m + 1, (m + 1 + 1) % 3 == 0, m + 1 + 1 + 1, m + 1 + 1 + 1 + 1⟩
def marksC (k : Int) (n : Nat) : List CI := (List.range n).map (fun (i : Nat) => mkCI (k + 5 * i))
theorem marksC_length (k : Int) (n : Nat) : (marksC k n).length = n := by simp [marksC]
theorem marksC_at (k : Int) (n i : Nat) (h : i < n) : (marksC k n)[i]? = some (mkCI (k + 5 * i)) := by simp [marksC, h]
theorem marksC_succ (k : Int) (n : Nat) : marksC k (n + 1) = marksC k n ++ [mkCI (k + 5 * n)] := by simp [marksC, List.range_succ]
theorem marksC_set (k : Int) (xs : List CI) (i : Nat) (hi : i < xs.length) : (marksC k i ++ xs.drop i).set i (mkCI (k + 5 * i)) = marksC k (i + 1) ++ xs.drop (i + 1) := by
  rw [List.set_append_right _ _ (by rw [marksC_length]; exact Nat.le_refl _), marksC_length, Nat.sub_self, List.drop_eq_getElem_cons hi, List.set_cons_zero, marksC_succ, List.append_assoc]
  rfl
theorem own_set5 {w : World} {B e n g cap : Nat} {xs : List CI} (h : w.ownsRow B e 5 (.slice (some ⟨g, 0, none⟩) n cap) n (cells5 xs)) {j : Nat} {s : CI} (hs : xs[j]? = some s) (s' : CI) :
    (((((w.setCell ⟨g, j * 5, none⟩ (.int .i64 s'.f)).setCell ⟨g, j * 5 + 1, none⟩ (.int .i64 s'.par)).setCell ⟨g, j * 5 + 2, none⟩ (.bool s'.dfr)).setCell ⟨g, j * 5 + 3, none⟩ (.int .i64 s'.fin)).setCell ⟨g, j * 5 + 4, none⟩ (.int .i64 s'.val)).ownsRow B e 5 (.slice (some ⟨g, 0, none⟩) n cap) n (cells5 (xs.set j s')) := by
  have hj : j < xs.length := (List.getElem?_eq_some_iff.1 hs).1
  have h0 := own_put5 h hs 0 (.int .i64 s'.f) ⟨s'.f, s.par, s.dfr, s.fin, s.val⟩ (by decide) rfl
  have h1 := own_put5 h0 (List.getElem?_set_self hj) 1 (.int .i64 s'.par) ⟨s'.f, s'.par, s.dfr, s.fin, s.val⟩ (by decide) rfl
  rw [List.set_set] at h1
  have h2 := own_put5 h1 (List.getElem?_set_self hj) 2 (.bool s'.dfr) ⟨s'.f, s'.par, s'.dfr, s.fin, s.val⟩ (by decide) rfl
  rw [List.set_set] at h2
  have h3 := own_put5 h2 (List.getElem?_set_self hj) 3 (.int .i64 s'.fin) ⟨s'.f, s'.par, s'.dfr, s'.fin, s.val⟩ (by decide) rfl
  rw [List.set_set] at h3
  have h4 := own_put5 h3 (List.getElem?_set_self hj) 4 (.int .i64 s'.val) s' (by decide) rfl
  rw [List.set_set] at h4
  exact h4
def MarkedC (B n c : Nat) (A : Option Addr) (k : Int) (w : World) (e : Ending) (w' : World) : Prop :=
  e = .returned (.int .i64 (k + 5 * n)) ∧ w'.ownsRow B 99 5 (.slice A n c) n (cells5 (marksC k n)) ∧ Chg (fun b => (Value.slice A n c).ownBlock = some b) w w'
set_option maxHeartbeats 4000000 in
theorem markCallInfoS_any (B n c : Nat) (A : Option Addr) (xs : List CI) (k : Int) (hn : n ≤ 2000000) (hl : xs.length = n) (hk0 : 0 ≤ k) (hk : k ≤ 20000000000) (w : World)
    (ho : w.ownsRow B 99 5 (.slice A n c) n (cells5 xs)) :
    Calls Try.prog 35 #[.slice A n c, .int .i64 k] w (MarkedC B n c A k w) := by
  have hO0 := Lib.hid ho
  have hL := Lib.hid hl
  clear ho hl
  go_enter Try.func35, Try.ntmps35
  go_wp2
  go_loopw [1, 5] (fun v i wr => ∃ (j : Nat) (m : Int), j ≤ n ∧ i = .int .i64 j ∧ v = .int .i64 m ∧ 0 ≤ m ∧ m ≤ 20000000000 + 5 * j ∧ Hid (m = k + 5 * j) ∧ wr.ownsRow B 99 5 (.slice A n c) n (cells5 (marksC k j ++ xs.drop j)) ∧
      Chg (fun b => (Value.slice A n c).ownBlock = some b) w wr) (fun _ i _ => n - (intOf i).toNat)
  case atStart => exact ⟨0, k, Nat.zero_le _, rfl, rfl, hk0, by omega, Lib.hid (by omega), by simpa [marksC] using hO0.out, Chg.refl _ _⟩
  case round =>
    obtain ⟨j, m, hj, rfl, rfl, m0, m1, hM, hown, hch⟩ := hrel
    have m2 : m ≤ 37000000000 := by omega
    by_cases hlt : j < n
    · have hO := Lib.hid hown
      have hC := Lib.hid hch
      rcases own_form hown with ⟨h0, _⟩ | ⟨_, g, cap, hv, _, hg⟩
      · omega
      · simp only [Value.slice.injEq, true_and] at hv
        obtain ⟨rfl, rfl⟩ := hv
        obtain ⟨s, hs⟩ : ∃ s, (marksC k j ++ xs.drop j)[j]? = some s := ⟨_, List.getElem?_eq_getElem (by rw [List.length_append, marksC_length, List.length_drop, hL.out]; omega)⟩
        obtain ⟨g0, g1, g2, g3, g4⟩ := own_cell5 hown hs
        have HS := Lib.hid hs
        have f := hown.frozenAt
        clear hown hch hs
        go_wp2
        go_roundw
        case rel =>
          refine ⟨j + 1, m + 1 + 1 + 1 + 1 + 1, by omega, by go_num, rfl, by omega, by omega, Lib.hid (by rw [hM.out]; omega), ?_, ?_⟩
          · rw [← marksC_set k xs j (by rw [hL.out]; exact hlt), ← hM.out]
            have h5 := own_set5 hO.out HS.out (mkCI m)
            dsimp only [mkCI] at h5 ⊢
            exact h5
          · refine Chg.put (Chg.put (Chg.put (Chg.put (Chg.put hC.out _ _ ?_) _ _ ?_) _ _ ?_) _ _ ?_) _ _ ?_ <;> exact .inr rfl
        case measure => simp [intOf]; omega
    · obtain rfl : j = n := by omega
      have hO := Lib.hid hown
      have hC := Lib.hid hch
      clear hown hch
      go_wp2
      go_ret
      refine ⟨by rw [hM.out]; rfl, ?_, hC.out⟩
      have := hO.out
      rwa [List.drop_eq_nil_of_le (by rw [hL.out]; omega), List.append_nil] at this
theorem heldCallInfoS_any (B n c : Nat) (A : Option Addr) (k : Int) (hn : n ≤ 2000000) (hk0 : 0 ≤ k) (hk : k ≤ 20000000000) (w : World) (hr : RdC w B A (marksC k n)) :
    Calls Try.prog 36 #[.slice A n c, .int .i64 k] w fun e w' => e = .returned (.int .i64 (k + 5 * n)) ∧ w = w' := by
  have hR := Lib.hid hr
  clear hr
  go_enter Try.func36, Try.ntmps36
  go_wp2
  go_loop [1, 5] (fun v i => ∃ (j : Nat) (m : Int), j ≤ n ∧ i = .int .i64 j ∧ v = .int .i64 m ∧ 0 ≤ m ∧ m ≤ 20000000000 + 5 * j ∧ Hid (m = k + 5 * j)) (fun _ i => n - (intOf i).toNat)
  case atStart => exact ⟨0, k, Nat.zero_le _, rfl, rfl, hk0, by omega, Lib.hid (by omega)⟩
  case round =>
    obtain ⟨j, m, hj, rfl, rfl, m0, m1, hM⟩ := hrel
    have m2 : m ≤ 37000000000 := by omega
    by_cases hlt : j < n
    · have hs := marksC_at k n j hlt
      rw [← hM.out] at hs
      obtain ⟨ad, rfl, hab, h0, h1, h2, h3, h4⟩ := hR.out j _ hs
      clear hs
      dsimp only [mkCI] at h0 h1 h2 h3 h4
      have hb : (((m + 1 + 1) % 3 == 0) != ((m + 1 + 1) % 3 == 0)) = false := by simp
      go_wp2
      go_round
      case rel => exact ⟨j + 1, m + 1 + 1 + 1 + 1 + 1, by omega, by go_num, rfl, by omega, by omega, Lib.hid (by rw [hM.out]; omega)⟩
      case measure => simp [intOf]; omega
    · obtain rfl : j = n := by omega
      go_wp2
      go_ret
      exact ⟨by rw [hM.out]; rfl, rfl⟩
end Go.Proofs.Yteagmmmniffibaa.RowC
