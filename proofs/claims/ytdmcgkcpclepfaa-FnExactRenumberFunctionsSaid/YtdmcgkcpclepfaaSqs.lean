import Derived.Test.YtdmcgkcpclepfaaSqc
set_option linter.all false
namespace Go.Proofs.Ytdmcgkcpclepfaa.Sqs
open Lib (hid)
open Go.ChangeShapes Go.WideShapes Go.ChangeAt Go.RowKit
open PL Mem IntsP SetM SortP CalP Rnp Sqc
theorem values_any (m c : Nat) (A : Option Addr) (w : World) :
  Calls Try.prog 118 #[.slice A m c] w fun e w' => e = .returned (.func (.func 142) #[] #[.pointer (some ⟨w.heap.size, 0, none⟩)]) ∧ w.alloc (.cells #[.slice A m c] 26) = w' := by
 go_enter Try.func118, Try.ntmps118
 go_wp2_with fail
 go_ret
 exact ⟨rfl, rfl⟩
theorem collect_any (Bs m c : Nat) (A : Option Addr) (zs : List Int) (hm : zs.length = m) (hm2 : m ≤ 1000000) (w : World) (hlt : Bs < w.heap.size) (hBs : w.cell? ⟨Bs, 0, none⟩ = some (.slice A m c)) (hr : RdI w w.heap.size A zs) :
  Calls Try.prog 141 #[.func (.func 142) #[] #[.pointer (some ⟨Bs, 0, none⟩)]] w fun e W' => ∃ A' c', e = .returned (.slice A' m c') ∧ W'.ownsRow w.heap.size 3 1 (.slice A' m c') m (cellsI zs) ∧ Below w.heap.size w W' := by
 have hA := hid (append_any Bs m c A zs hm hm2 w hlt hBs hr)
 clear hBs hr hm hlt
 go_enter Try.func141, Try.ntmps141
 go_wp2_with fail
 refine hA.out.mono ?_
 rintro e w1 ⟨A', c', rfl, o1, b1⟩
 have O1 := hid o1
 have B1 := hid b1
 clear o1 b1
 go_wp2_with fail
 go_ret
 exact ⟨A', c', rfl, O1.out, B1.out⟩
theorem sorted_any (Bs m c : Nat) (A : Option Addr) (zs : List Int) (hm : zs.length = m) (hm2 : m ≤ 1000000) (w : World) (hlt : Bs < w.heap.size) (hBs : w.cell? ⟨Bs, 0, none⟩ = some (.slice A m c)) (hr : RdI w w.heap.size A zs) :
  Calls Try.prog 117 #[.func (.func 142) #[] #[.pointer (some ⟨Bs, 0, none⟩)]] w fun e W' => ∃ A' c', e = .returned (.slice A' m c') ∧ W'.ownsRow w.heap.size 3 1 (.slice A' m c') m (cellsI (sortI zs)) ∧ Below w.heap.size w W' := by
 have hA := hid (collect_any Bs m c A zs hm hm2 w hlt hBs hr)
 have HM := hid hm
 clear hBs hr hm hlt
 go_enter Try.func117, Try.ntmps117
 go_wp2_with fail
 refine hA.out.mono ?_
 rintro e w1 ⟨A', c', rfl, o1, b1⟩
 have B1 := hid b1
 have HS := hid (sort_any w.heap.size m c' A' zs HM.out (by omega) w1 o1)
 have HL := hid (fun x (hx : (Value.slice A' m c').ownBlock = some x) => (World.ownsRow.lt o1 x hx).1)
 clear o1 b1
 go_wp2_with fail
 refine HS.out.mono ?_
 rintro e w2 ⟨rfl, o2, c2⟩
 have O2 := hid o2
 have B2 := hid (B1.out.trans (c2.below B1.out.size (fun x hx e => by have := HL.out x e; omega)))
 clear o2 c2
 go_wp2_with fail
 go_ret
 exact ⟨A', c', rfl, O2.out, B2.out⟩
set_option maxHeartbeats 4000000 in
set_option maxRecDepth 100000 in
theorem isOrder_any (n N c : Nat) (A : Option Addr) (xs : List Int) (hn : n ≤ 6) (hl : xs.length = N) (hN : N ≤ 2000000) (w : World) (hr : RdI w w.heap.size A xs) :
  Calls Try.prog 79 #[.slice A N c, .int .i64 n] w fun e w' => e = .returned (.bool (ordB xs n)) ∧ Below w.heap.size w w' := by
 by_cases hNn : N = n
 ·subst hNn
  have HSO := hid (sorted_any w.heap.size N c A xs hl (by omega) (w.alloc (.cells #[.slice A N c] 26)) (by simp) (Boxed.new w 26 (.slice A N c)).cell ((hr.below ((Below.refl _ _).alloc (Nat.le_refl _) _)).more (by simp)))
  have HIO := hid (fun (h : ordB xs N = true) => (ord_iota.1 h).2)
  have HYES := hid (fun (h : ∀ j, j < N → (sortI xs)[j]? = some (j : Int)) => (ord_iota.2 ⟨hl, h⟩ : ordB xs N = true))
  have HL := hid (show (sortI xs).length = N by rw [sortI_len, hl])
  clear hr hl
  go_enter Try.func79, Try.ntmps79
  go_wp2_with fail
  refine (values_any N c A _).mono ?_
  rintro e w1 ⟨rfl, rfl⟩
  go_wp2_with fail
  refine HSO.out.mono ?_
  rintro e w2 ⟨A', c', rfl, o2, b2⟩
  have B2 := hid (show Below w.heap.size w w2 from ((Below.refl _ _).alloc (Nat.le_refl _) _).trans (b2.mono (by simp)))
  have HRD := hid (rdI_own o2)
  clear o2 b2 HSO
  generalize sortI xs = ss at *
  go_wp2_with fail
  go_loopw [15] (fun i wr => ∃ k : Nat, k ≤ N ∧ i = .int .i64 k ∧ wr = w2 ∧ ∀ j, j < k → ss[j]? = some (j : Int)) (fun i _ => N - (intOf i).toNat)
  case atStart => exact ⟨0, Nat.zero_le _, rfl, rfl, fun j hj => absurd hj (Nat.not_lt_zero _)⟩
  case round =>
   obtain ⟨k, hk, rfl, rfl, hall⟩ := hrel
   have HA := hid hall
   clear hall
   by_cases hkN : k < N
   ·obtain ⟨y, hy⟩ : ∃ y, ss[k]? = some y := ⟨_, List.getElem?_eq_getElem (by rw [HL.out]; exact hkN)⟩
    obtain ⟨ad, rfl, hab, h0⟩ := HRD.out k y hy
    have HY := hid hy
    clear hy
    by_cases hyk : y = k
    ·subst hyk
     go_wp2_with fail
     go_roundw
     case rel => exact ⟨k + 1, by omega, by go_num, by first | rfl | trivial, fun j hj => by
      rcases Nat.lt_or_ge j k with h | h
      ·exact HA.out j h
      ·obtain rfl : j = k := by omega
       exact HY.out⟩
     case measure => simp [intOf]; omega
    ·have HF := hid (show ordB xs N = false from by
      cases hc : ordB xs N with
      | false => rfl
      | true =>
       have := HIO.out hc k hkN
       rw [HY.out] at this
       exact absurd (Option.some.inj this) hyk)
     have kb : (y == (k : Int)) = false := by simpa using hyk
     clear hyk
     go_wp2_with fail
     go_ret
     exact ⟨by rw [HF.out] <;> rfl, B2.out⟩
   ·obtain rfl : k = N := by omega
    have HT := hid (HYES.out HA.out)
    go_wp2_with fail
    go_ret
    exact ⟨by rw [HT.out] <;> rfl, B2.out⟩
 ·have HF := hid (show ordB xs n = false from by
   cases hc : ordB xs n with
   | false => rfl
   | true => exact absurd ((ordB_iff.1 hc).1.symm.trans hl).symm hNn)
  have kb : ((N : Int) == (n : Int)) = false := by simp; omega
  clear hr hl hNn
  go_enter Try.func79, Try.ntmps79
  go_wp2_with fail
  go_ret
  exact ⟨by rw [HF.out] <;> rfl, Below.refl _ _⟩
end Go.Proofs.Ytdmcgkcpclepfaa.Sqs
-- squeezed
