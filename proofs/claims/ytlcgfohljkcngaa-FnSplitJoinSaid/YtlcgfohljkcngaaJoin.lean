/- What the helper functions of the law on joining, the model's joining and the program's own return, for at most 1048576 strings and bytes in all; nothing that was there is written. -/
import Derived.Test.YtlcgfohljkcngaaRows
import Derived.Test.YtlcgfohljkcngaaJoinPlain
import Derived.Test.YtlcgfohljkcngaaShelf
import Derived.Test.YtlcgfohljkcngaaMarks
import Derived.WalkKit
import Derived.ProofKit
import Derived.Lib.Hide
import Derived.WalkSpells
import Derived.Deep.QuietTactic
import Derived.BigQuiet
import Derived.Deep.LoopGhost
namespace Go.Proofs.Ytlcgfohljkcngaa.JoinWalk
open Go.ChangeShapes Go.WideShapes Go.ChangeAt Go.RowKit
open JoinPlain
/-- The slice's cells hold just these strings, in a block that was there. -/
structure Cells (w : World) (b off : Nat) (xs : List ByteArray) : Prop where
  lt : b < w.heap.size
  at_ : ∀ j x, xs[j]? = some x → w.cell? ⟨b, off + j, none⟩ = some (.string x)
theorem Cells.below {w w' : World} {b off : Nat} {xs : List ByteArray} (h : Cells w b off xs) (hb : Below w.heap.size w w') : Cells w' b off xs :=
  ⟨Nat.lt_of_lt_of_le h.lt hb.size, fun j x hx => (hb.cell (p := ⟨b, off + j, none⟩) h.lt).trans (h.at_ j x hx)⟩
theorem get_of {xs : List ByteArray} {j : Nat} (h : j < xs.length) : ∃ x, xs[j]? = some x := ⟨xs[j], by simp⟩
theorem left_none (w : World) (a : Option Addr) (cap : Nat) :
    Calls Try.prog 21 #[.slice a 0 cap, .int .i64 1048576] w fun e w' => e = .returned (.int .i64 1048576) ∧ w = w' := by
  go_enter Try.func21, Try.ntmps21
  go_wp2
  refine wp_loop_rounds 1 ?_
  rw [rounds_succ]
  go_wp2
  go_ret
  exact ⟨rfl, rfl⟩
set_option maxHeartbeats 1000000 in
theorem left_some (w : World) (b off n cap : Nat) (xs : List ByteArray) (hl : xs.length = n) (hn : n ≤ 9223372036854775807) (hm : ∀ x ∈ xs, x.size ≤ maxLen) (hc : Cells w b off xs) :
    Calls Try.prog 21 #[.slice (some ⟨b, off, none⟩) n cap, .int .i64 1048576] w fun e w' => e = .returned (.int .i64 (left xs)) ∧ w = w' := by
  by_cases hbig : 1048576 < n
  · have hr : Hid (left xs = -1) := Lib.hid (by unfold left; rw [if_neg (by omega)])
    clear hm hl hc
    go_enter Try.func21, Try.ntmps21
    go_wp2
    go_ret
    exact ⟨by rw [hr.out]; rfl, rfl⟩
  · have hL := Lib.hid hl
    have hM := Lib.hid hm
    have hC := Lib.hid hc
    have hn2 : n ≤ 1048576 := by omega
    clear hl hm hc hbig
    go_enter Try.func21, Try.ntmps21
    go_wp2
    go_loop [1, 5] (fun l i => ∃ (j : Nat) (L : Int), j ≤ n ∧ i = .int .i64 j ∧ l = .int .i64 L ∧ 0 ≤ L ∧ L ≤ 1048576 ∧ L = 1048576 - (n : Int) - (tot (xs.take j) : Int)) (fun _ i => n - (intOf i).toNat)
    case atStart => exact ⟨0, _, Nat.zero_le _, rfl, rfl, by omega, by omega, by simp [tot]⟩
    case round =>
      obtain ⟨j, L, hj, rfl, rfl, l0, l1, hle⟩ := hrel
      have hE := Lib.hid hle
      clear hle
      by_cases hlt : j < n
      · obtain ⟨x, hx⟩ := get_of (xs := xs) (j := j) (by rw [hL.out]; exact hlt)
        have hc := hC.out.at_ j x hx
        have hxs : x.size ≤ maxLen := hM.out x (List.mem_iff_getElem?.2 ⟨j, hx⟩)
        unfold maxLen at hxs
        have hX := Lib.hid hx
        clear hx
        by_cases hs : (x.size : Int) ≤ L
        · have hnx := Lib.hid (tot_next hX.out)
          go_wp2
          go_round
          case rel => exact ⟨j + 1, _, by omega, by go_num, rfl, by omega, by omega, by rw [hnx.out, hE.out]; omega⟩
          case measure => simp [intOf]; omega
        · have hr : Hid (left xs = -1) := Lib.hid (by
            have h1 := tot_next hX.out
            have h2 := tot_le xs (j + 1)
            have h3 := hE.out
            have h4 := hL.out
            unfold left; rw [if_neg (by omega)])
          have hs' : L - (x.size : Int) < 0 := by omega
          clear hs
          go_wp2
          go_ret
          exact ⟨by rw [hr.out]; rfl, rfl⟩
      · have hr : Hid (left xs = L) := Lib.hid (by
          have h3 := hE.out
          have h4 := hL.out
          rw [List.take_of_length_le (by omega)] at h3
          unfold left
          rw [if_pos (by omega), h4, h3])
        go_wp2
        go_ret
        exact ⟨by rw [hr.out]; rfl, rfl⟩
theorem bytes_snoc (s : ByteArray) (k : Nat) (h : k < s.size) : s.data.toList.take (k + 1) = s.data.toList.take k ++ [s[k]] := by
  rw [List.take_succ_eq_append_getElem (by simpa using h)]; rfl
theorem has_next (s : ByteArray) (k : Nat) (h : k < s.size) (b : UInt8) : has (s.data.toList.take (k + 1)) b = (has (s.data.toList.take k) b || s[k] == b) := by
  rw [bytes_snoc s k h]; simp [has]
theorem has_yes (s : ByteArray) (k : Nat) (h : k < s.size) (b : UInt8) (e : (s[k] == b) = true) : has s.data.toList b = true := by
  rw [has, List.any_eq_true]
  exact ⟨s[k], by show s.data[k] ∈ _; simp, e⟩
set_option maxHeartbeats 400000 in
theorem stands_any (s : ByteArray) (hs : s.size ≤ 1048576) (b : UInt8) (w : World) :
    Calls Try.prog 32 #[.string s, .int .u8 b.toNat] w fun e w' => e = .returned (.bool (has s.data.toList b)) ∧ w = w' := by
  go_enter Try.func32, Try.ntmps32
  go_wp2
  go_loop [5] (fun i => ∃ k : Nat, k ≤ s.size ∧ i = .int .i64 k ∧ has (s.data.toList.take k) b = false) (fun i => s.size - (intOf i).toNat)
  case atStart => exact ⟨0, Nat.zero_le _, rfl, rfl⟩
  case round =>
    obtain ⟨k, hk, rfl, hno⟩ := hrel
    have hN := Lib.hid hno
    clear hno
    by_cases hlt : k < s.size
    · have hnx := Lib.hid (has_next s k hlt b)
      by_cases hb : s[k] = b
      · have hyes := Lib.hid (has_yes s k hlt b (by simp [hb]))
        have ht : ((s[k].toNat : Int) == b.toNat) = true := by rw [hb]; simp
        clear hb
        go_wp2
        go_ret
        exact ⟨by rw [hyes.out]; rfl, rfl⟩
      · have hne : (s[k] == b) = false := by simp [hb]
        have ht : ((s[k].toNat : Int) == b.toNat) = false := by
          rw [beq_eq_false_iff_ne]; intro e; exact hb (UInt8.toNat_inj.1 (by omega))
        have hne' := Lib.hid hne
        clear hb hne
        go_wp2
        go_round
        case rel => exact ⟨k + 1, by omega, by go_num, by rw [hnx.out, hN.out, hne'.out]; rfl⟩
        case measure => simp [intOf]; omega
    · have hke : Hid (has s.data.toList b = false) := Lib.hid (by have := hN.out; rwa [List.take_of_length_le (by simp; omega)] at this)
      go_wp2
      go_ret
      exact ⟨by rw [hke.out]; rfl, rfl⟩
end Go.Proofs.Ytlcgfohljkcngaa.JoinWalk
