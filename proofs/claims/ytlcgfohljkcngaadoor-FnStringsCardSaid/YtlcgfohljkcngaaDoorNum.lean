/- What the model's numeral of a number is: its decimal digits behind a sign, for every number from -999999 to 999999; no other condition. -/
import Derived.Test.YtlcgfohljkcngaaDoorRows
import Derived.WalkKit
import Derived.ProofKit
import Derived.Lib.Hide
import Derived.Lib.ItoaNum
import Derived.Deep.QuietTactic
import Derived.BigQuiet
import Derived.IntWalk
namespace Go.Proofs.YtlcgfohljkcngaaDoor.Num
open Go.ChangeShapes Go.WideShapes Go.ChangeAt Go.RowKit
theorem digit_cut : ∀ k : Fin 10, (([48, 49, 50, 51, 52, 53, 54, 55, 56, 57] : List UInt8).drop k.val).take 1 = [UInt8.ofNat (48 + k.val)] := by decide +kernel
def dig (k : Nat) : UInt8 := UInt8.ofNat (48 + k)
theorem slice_digit (k : Nat) (hk : k < 10) (w : World) :
    (Instr.slice 9 (.string { data := #[48, 49, 50, 51, 52, 53, 54, 55, 56, 57] }) (some (.int .i64 (k : Int))) (some (.int .i64 ((k : Int) + 1))) none).run Tryd.prog w = .ok (.string { data := #[dig k] }) w := by
  rw [run_slice_string w 9 _ .i64 .i64 k (k + 1) Tryd.underlying9 (by omega) (by omega) (by have : (ByteArray.mk #[48, 49, 50, 51, 52, 53, 54, 55, 56, 57]).size = 10 := rfl; omega)]
  have e : (ByteArray.mk #[48, 49, 50, 51, 52, 53, 54, 55, 56, 57]) = ByteArray.mk ([48, 49, 50, 51, 52, 53, 54, 55, 56, 57] : List UInt8).toArray := rfl
  rw [e, ByteArray.extract_mk, show ((k : Int) + 1).toNat - (k : Int).toNat = 1 from by omega, show (k : Int).toNat = k from by omega, digit_cut ⟨k, hk⟩]
  rfl
set_option maxHeartbeats 400000 in
theorem num_small (n : Nat) (h : n < 10) (w : World) :
    Calls Tryd.prog 25 #[.int .i64 n] w fun e w' => e = .returned (.string ⟨(Lib.decDigits n).toArray⟩) ∧ w' = w := by
  have hd : Hid (Lib.decDigits n = [dig n]) := Lib.hid (Lib.decDigits_one h)
  have hs := slice_digit n h
  go_enter Tryd.func25, Tryd.ntmps25
  go_wp2
  go_ret
  exact ⟨by rw [hd.out]; rfl, rfl⟩
theorem add_str (a : List UInt8) (b : UInt8) : (ByteArray.mk a.toArray) ++ (ByteArray.mk #[b]) = ByteArray.mk (a ++ [b]).toArray := by
  apply ByteArray.ext
  simp
theorem dd_len (k : Nat) : ∀ n, n < 10 ^ (k + 1) → (Lib.decDigits n).length ≤ k + 1 := by
  induction k with
  | zero => intro n h; rw [Lib.decDigits_one (by omega)]; simp
  | succ k ih =>
    intro n h
    by_cases h1 : n < 10
    · rw [Lib.decDigits_one h1]; simp
    · rw [Lib.decDigits, dif_neg h1]
      have := ih (n / 10) (by rw [Nat.pow_succ] at h; omega)
      simp; omega
theorem num_nat (n : Nat) : n < 1000000 → ∀ w : World,
    Calls Tryd.prog 25 #[.int .i64 n] w fun e w' => e = .returned (.string ⟨(Lib.decDigits n).toArray⟩) ∧ ∃ q, w' = w.drewN q := by
  induction n using Nat.strongRecOn with
  | _ n ih =>
    intro hn w
    by_cases h : n < 10
    · exact (num_small n h w).mono fun e w' ⟨he, hw⟩ => ⟨he, 0, hw⟩
    · have hr0 := ih (n / 10) (by omega) (by omega)
      rw [show ((n / 10 : Nat) : Int) = (n : Int) / 10 from by omega] at hr0
      have hr := Lib.hid hr0
      have hd : Hid (Lib.decDigits n = Lib.decDigits (n / 10) ++ [dig (n % 10)]) := Lib.hid (by rw [Lib.decDigits, dif_neg h]; rfl)
      have hs := slice_digit (n % 10) (by omega)
      rw [show ((n % 10 : Nat) : Int) = (n : Int) % 10 from by omega] at hs
      have hm : 0 ≤ (n : Int) % 10 := by omega
      have hm2 : (n : Int) % 10 < 10 := by omega
      have hm3 : IntKind.i64.wrap ((n : Int) % 10 + 1) = (n : Int) % 10 + 1 := IntWalk.i64_in _ (by omega)
      have hlen : (Lib.decDigits (n / 10)).length ≤ 6 := dd_len 5 _ (by omega)
      clear ih hr0
      go_enter Tryd.func25, Tryd.ntmps25
      go_wp2_with fail
      go_quiet ((go_at_call 25; exact Calls.quiet_of (hr.out _)))
      go_wp2
      go_ret
      exact ⟨by rw [hd.out, ← add_str]; rfl, _, rfl⟩
theorem minus_str (a : List UInt8) : (ByteArray.mk #[45]) ++ (ByteArray.mk a.toArray) = ByteArray.mk (45 :: a).toArray := by
  apply ByteArray.ext
  simp
theorem num_neg (n : Int) (h0 : n < 0) (h1 : -1000000 < n) (w : World) :
    Calls Tryd.prog 25 #[.int .i64 n] w fun e w' => e = .returned (.string ⟨(Lib.itoa n).toArray⟩) ∧ ∃ q, w' = w.drewN q := by
  have hc := fun w => num_nat n.natAbs (by omega) w
  rw [show ((n.natAbs : Nat) : Int) = -n from by omega] at hc
  have hr := Lib.hid hc
  have hd : Hid (Lib.itoa n = 45 :: Lib.decDigits n.natAbs) := Lib.hid (by rw [Lib.itoa, if_pos h0])
  have hlen : (Lib.decDigits n.natAbs).length ≤ 6 := dd_len 5 _ (by omega)
  clear hc
  go_enter Tryd.func25, Tryd.ntmps25
  go_wp2_with (go_at_call 25; refine (hr.out _).mono ?_; rintro e w' ⟨rfl, q, rfl⟩)
  go_ret
  exact ⟨by rw [hd.out, ← minus_str]; rfl, _, rfl⟩
/-- THE MODEL's NUMERAL. -/
theorem num_any (n : Int) (h0 : -1000000 < n) (h1 : n < 1000000) (w : World) :
    Calls Tryd.prog 25 #[.int .i64 n] w fun e w' => e = .returned (.string ⟨(Lib.itoa n).toArray⟩) ∧ ∃ q, w' = w.drewN q := by
  by_cases h : n < 0
  · exact num_neg n h h0 w
  · obtain ⟨k, rfl⟩ := Int.eq_ofNat_of_zero_le (Int.not_lt.1 h)
    have e : Lib.itoa (k : Int) = Lib.decDigits k := by rw [Lib.itoa, if_neg h]; rfl
    rw [e]
    exact num_nat k (by omega) w
theorem itoa_len (n : Int) (h0 : -1000000 < n) (h1 : n < 1000000) : (Lib.itoa n).length ≤ 7 := by
  unfold Lib.itoa
  split
  · have := dd_len 5 n.natAbs (by omega); simp; omega
  · have := dd_len 5 n.toNat (by omega); omega
end Go.Proofs.YtlcgfohljkcngaaDoor.Num
