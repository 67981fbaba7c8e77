/- What the program's test before joining returns: that no element has the separator and that the joined string has at most 4000 bytes; for at most 1048576 strings and bytes in all; the world is as it was. -/
import Derived.Test.YtlcgfohljkcngaaJoin
import Derived.WalkMore
namespace Go.Proofs.Ytlcgfohljkcngaa.JoinCan
open Go.ChangeShapes Go.WideShapes Go.ChangeAt Go.RowKit
open JoinPlain JoinWalk
def canR (xs : List ByteArray) (c : UInt8) (n : Nat) : Bool := cl xs c && decide ((n - 1) + tot xs ≤ 4000)
set_option maxHeartbeats 2000000 in
theorem can_some (w : World) (b off n cap : Nat) (c : UInt8) (xs : List ByteArray) (hl : xs.length = n) (hn0 : 1 ≤ n) (hn : n ≤ 1048576) (ht : tot xs ≤ 1048576) (hc : Cells w b off xs) :
    Calls Try.prog 30 #[.slice (some ⟨b, off, none⟩) n cap, .int .u8 c.toNat] w fun e w' => e = .returned (.bool (canR xs c n)) ∧ w = w' := by
  have hL := Lib.hid hl
  have hC := Lib.hid hc
  clear hl hc
  go_enter Try.func30, Try.ntmps30
  go_wp2
  go_step3
  go_wp2
  go_step3
  go_wp2
  go_loopg [5, 6, 15] n (fun g s5 s6 s15 wx => ∃ (k S : Nat), k + g = n ∧ s15 = .int .i64 k ∧ s5 = .int .i64 S ∧ s6 = .bool true ∧ S ≤ 2097152 ∧ Hid (S = (n - 1) + tot (xs.take k)) ∧ Hid (0 < k → S ≤ 4000) ∧ Hid (cl (xs.take k) c = true) ∧ w = wx)
  case atStart => exact ⟨0, n - 1, by omega, rfl, by go_num, rfl, by omega, by simp [Hid, tot], fun h => absurd h (by omega), rfl, rfl⟩
  case round =>
    obtain ⟨k, S, hkg, rfl, rfl, rfl, hS2, hS, hS4, hcl, rfl⟩ := hrel
    have hkn : k ≤ n := by omega
    have hg := Lib.hid hkg
    clear hkg
    by_cases hlt : k < n
    · obtain ⟨x, hx⟩ := get_of (xs := xs) (j := k) (by rw [hL.out]; exact hlt)
      have hcx := hC.out.at_ k x hx
      have hX := Lib.hid hx
      clear hx
      have hxs : x.size ≤ 1048576 := by
        have h1 := tot_next hX.out
        have h2 := tot_le xs (k + 1)
        omega
      have hnx := Lib.hid (tot_next hX.out)
      by_cases hbig : 4000 < S + x.size
      · have hr : Hid (canR xs c n = false) := Lib.hid (by
          have h2 := tot_le xs (k + 1)
          have h3 := hnx.out
          have h4 := hS.out
          unfold canR
          rw [Bool.and_eq_false_iff]
          right
          simp; omega)
        have hbig' : (4000 : Int) < (S : Int) + (x.size : Int) := by omega
        have hdec : decide ((S : Int) + (x.size : Int) ≤ 4000) = false := by simp; omega
        clear hbig
        go_wp2
        rw [Exit.noGoto_ret]
        go_ret
        exact ⟨by rw [hr.out]; rfl, rfl⟩
      · have hsm : S + x.size ≤ 4000 := by omega
        have hsm' : (S : Int) + (x.size : Int) ≤ 4000 := by omega
        clear hbig
        go_wp2
        go_loopg [6, 27] x.size (fun g2 s6 s27 wy => ∃ j : Nat, j + g2 = x.size ∧ s27 = .int .i64 j ∧ s6 = .bool true ∧ Hid (has (x.data.toList.take j) c = false) ∧ w = wy)
        case atStart => exact ⟨0, by omega, rfl, rfl, rfl, rfl⟩
        case round =>
          obtain ⟨j, hjg, rfl, rfl, hno, rfl⟩ := hrel
          have hg2 := Lib.hid hjg
          have hjn : j ≤ x.size := by omega
          clear hjg
          by_cases hjl : j < x.size
          · have hn2 := Lib.hid (has_next x j hjl c)
            by_cases hb : x[j] = c
            · have hyes := has_yes x j hjl c (by simp [hb])
              have hr : Hid (canR xs c n = false) := Lib.hid (by unfold canR; rw [cl_no c hX.out hyes]; rfl)
              have htst : ((x[j].toNat : Int) == c.toNat) = true := by rw [hb]; simp
              clear hb hyes
              go_wp2
              rw [Exit.noGoto_ret]
              go_ret
              exact ⟨by rw [hr.out]; rfl, rfl⟩
            · have hne : (x[j] == c) = false := by simp [hb]
              have hnx2 : Hid (has (x.data.toList.take (j + 1)) c = false) := Lib.hid (by rw [hn2.out, hno.out, hne]; rfl)
              have htst : ((x[j].toNat : Int) == c.toNat) = false := by
                rw [beq_eq_false_iff_ne]; intro e; exact hb (UInt8.toNat_inj.1 (by omega))
              clear hb hne
              go_wp2
              go_roundg (x.size - (j + 1))
              case measure => have := hg2.out; omega
              case rel => exact ⟨j + 1, by omega, by go_num, rfl, hnx2, rfl⟩
          · have hfull : Hid (has x.data.toList c = false) := Lib.hid (by have := hno.out; rwa [List.take_of_length_le (by simp; omega)] at this)
            have hcl2 : Hid (cl (xs.take (k + 1)) c = true) := Lib.hid (by rw [cl_next c hX.out, hcl.out, hfull.out]; rfl)
            have hs2 : Hid (S + x.size = (n - 1) + tot (xs.take (k + 1))) := Lib.hid (by rw [hnx.out]; have := hS.out; omega)
            go_wp2
            go_roundg (n - (k + 1))
            case measure => have := hg.out; omega
            case rel => exact ⟨k + 1, S + x.size, by omega, by go_num, by go_num, rfl, by omega, hs2, fun _ => hsm, hcl2, rfl⟩
    · obtain rfl : k = n := by omega
      have hk4 := hS4.out hn0
      have hr : Hid (canR xs c k = true) := Lib.hid (by
        have h1 := hcl.out
        have h2 := hS.out
        rw [List.take_of_length_le (by rw [hL.out]; exact Nat.le_refl _)] at h1 h2
        unfold canR
        rw [h1, Bool.true_and]
        simp; omega)
      have hdec : decide ((S : Int) ≤ 4000) = true := by simp; omega
      go_wp2
      try rw [Exit.noGoto_ret]
      go_ret
      exact ⟨by rw [hr.out]; rfl, rfl⟩
end Go.Proofs.Ytlcgfohljkcngaa.JoinCan
