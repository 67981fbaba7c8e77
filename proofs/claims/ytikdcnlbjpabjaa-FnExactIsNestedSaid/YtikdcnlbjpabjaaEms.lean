/- spec.MostOpen returns the greatest number of resources that are open at once. -/
import Derived.Test.YtikdcnlbjpabjaaEnb
namespace Go.Proofs.Ytikdcnlbjpabjaa.EntM
set_option linter.unusedVariables false
set_option linter.unusedSimpArgs false
open Go.ChangeShapes Go.WideShapes Go.ChangeAt Go.RowKit
open Mem IntsP LiP EntP GrwP EntS

def mostK (xs : List Int) : Nat → Nat
  | 0 => 0
  | k + 1 => max (mostK xs k) (openK xs k).length
theorem mostK_le (xs : List Int) : ∀ k, mostK xs k ≤ k
  | 0 => Nat.le_refl _
  | k + 1 => by have := mostK_le xs k; have := openK_len xs k; show max _ _ ≤ _; omega
def mostR (xs : List Int) : Int × Bool := if goodL xs then ((mostK xs (xs.length + 1) : Int), true) else (0, false)
theorem mostR_no {xs : List Int} (h : goodL xs = false) : mostR xs = (0, false) := by unfold mostR; rw [h]; rfl
theorem mostR_yes {xs : List Int} (h : goodL xs = true) : mostR xs = ((mostK xs (xs.length + 1) : Int), true) := by unfold mostR; rw [h]; rfl
theorem rdI_take {w : World} {B : Nat} {A : Option Addr} {xs : List Int} (h : RdI w B A xs) (k : Nat) : RdI w B A (xs.take k) := fun j z hz => by
  rw [List.getElem?_take] at hz
  split at hz
  · exact h j z hz
  · exact absurd hz (by simp)
theorem goodK_take {xs : List Int} {k n : Nat} (h : goodK xs n) (hk : k ≤ n) : goodK (xs.take k) k := fun j z hj hz => by
  rw [List.getElem?_take, if_pos hj] at hz
  exact h j z (by omega) hz
theorem openK_self (xs : List Int) (k : Nat) : openK (xs.take k) k = openK xs k := openK_take xs k k (Nat.le_refl _)
theorem faultsK_self (xs : List Int) (k : Nat) : faultsK (xs.take k) k = faultsK xs k := by
  unfold faultsK
  congr 1
  apply List.filter_congr
  intro i hi
  rw [List.mem_range] at hi
  rw [openK_take xs k i (by omega)]
  congr 1
  simp [List.getElem?_take, hi]
set_option maxRecDepth 100000 in
set_option maxHeartbeats 2000000 in
theorem mostS_any (n : Nat) (ad : Addr) (xs : List Int) (hx : FitL xs) (hl : xs.length = n) (hn : n ≤ 2000000) (w : World) (hr : RdI w w.heap.size (some ad) xs) :
    Calls Try.prog 14 #[.slice (some ad) n n] w (NumR (mostR xs) w) := by
  have HL := Lib.hid hl
  have HR := Lib.hid hr
  have HF := Lib.hid (goodS_any w.heap.size (some ad) n n xs hn hl w hr)
  clear hr hx
  cases hgd : goodL xs with
  | false =>
    have hs := Lib.hid (mostR_no hgd)
    rw [hgd] at HF
    clear hgd hl
    go_enter Try.func14, Try.ntmps14
    go_wp2_with fail
    refine HF.out.mono ?_
    rintro e w1 ⟨rfl, rfl⟩
    go_wp2_with fail
    go_ret2
    rw [hs.out]
    exact ⟨rfl, Below.refl _ _⟩
  | true =>
    have hs := Lib.hid (mostR_yes hgd)
    obtain ⟨h60, hgk⟩ := (goodL_iff xs).1 hgd
    rw [hl] at h60 hgk
    have HGK := Lib.hid hgk
    rw [hgd] at HF
    clear hgd hl hgk
    go_enter Try.func14, Try.ntmps14
    go_wp2_with fail
    refine HF.out.mono ?_
    rintro e w1 ⟨rfl, rfl⟩
    go_wp2_with fail
    go_loopw [4, 5] (fun v i wr => ∃ (k : Nat) (q : Nat), k ≤ n + 1 ∧ i = .int .i64 k ∧ v = .int .i64 q ∧ q = mostK xs k ∧ Below w.heap.size w wr) (fun _ i _ => n + 1 - (intOf i).toNat)
    case atStart => exact ⟨0, 0, Nat.zero_le _, rfl, rfl, rfl, Below.refl _ _⟩
    case round =>
      obtain ⟨k, q, hk, rfl, rfl, hq, hb⟩ := hrel
      have HQ := Lib.hid hq
      have lq : q ≤ k := by rw [hq]; exact mostK_le xs k
      have HB := Lib.hid hb
      clear hq hb
      by_cases hlt : k ≤ n
      · have hrd := Lib.hid (read_any w.heap.size (some ad) k n (xs.take k) (by omega) (by rw [List.length_take, HL.out]; omega) (goodK_take HGK.out hlt) wr (rdI_take (HR.out.below HB.out) k) HB.out.size)
        go_wp2_with fail
        rw [openK_self, faultsK_self] at hrd
        refine hrd.out.mono ?_
        rintro e w2 ⟨A2, c2, A3, c3, rfl, hT⟩
        have HB2 := Lib.hid (HB.out.trans (hT.b.mono HB.out.size))
        have lo := openK_len xs k
        have hmo : mostK xs (k + 1) = max q (openK xs k).length := by rw [HQ.out]; rfl
        obtain ⟨d, hd⟩ : ∃ d, (openK xs k).length = d := ⟨_, rfl⟩
        have HMO := Lib.hid (show ((mostK xs (k + 1) : Nat) : Int) = max (q : Int) (d : Int) by rw [hmo, hd]; omega)
        have lm := mostK_le xs (k + 1)
        clear hT hrd hmo
        rw [hd] at lo ⊢
        clear hd
        go_wp2_with fail
        refine (l1Most_any _ _ _).mono ?_
        rintro e w3 ⟨rfl, rfl⟩
        rw [← HMO.out]
        go_wp2_with fail
        go_roundw
        case rel => exact ⟨k + 1, mostK xs (k + 1), by omega, by go_num, rfl, rfl, HB2.out⟩
        case measure => simp [intOf]; omega
      · obtain rfl : k = n + 1 := by omega
        go_wp2_with fail
        go_ret2
        rw [hs.out, HL.out, ← HQ.out]
        exact ⟨rfl, HB.out⟩
end Go.Proofs.Ytikdcnlbjpabjaa.EntM
