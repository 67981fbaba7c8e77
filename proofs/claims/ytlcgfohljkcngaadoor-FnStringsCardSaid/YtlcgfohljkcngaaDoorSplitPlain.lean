/- Plain facts on cutting a string at every byte that is a given one: where the last part began, and the parts so far; no condition on a program. -/
import Derived.Below
namespace Go.Proofs.YtlcgfohljkcngaaDoor.SplitPlain
/-- Behind k bytes: where the part that is open began, and the parts that are closed. -/
def cutAt (s : ByteArray) (b : UInt8) : Nat → Nat × List ByteArray
  | 0 => (0, [])
  | k + 1 => if (s.data.toList[k]? == some b) = true then (k + 1, (cutAt s b k).2 ++ [s.extract (cutAt s b k).1 k]) else cutAt s b k
def parts (s : ByteArray) (b : UInt8) : List ByteArray := (cutAt s b s.size).2 ++ [s.extract (cutAt s b s.size).1 s.size]
theorem from_le (s : ByteArray) (b : UInt8) (k : Nat) : (cutAt s b k).1 ≤ k := by
  induction k with
  | zero => exact Nat.le_refl _
  | succ k ih => unfold cutAt; split <;> (try simp) <;> omega
theorem count_le (s : ByteArray) (b : UInt8) (k : Nat) : (cutAt s b k).2.length ≤ k := by
  induction k with
  | zero => exact Nat.le_refl _
  | succ k ih => unfold cutAt; split <;> (try simp) <;> omega
theorem at_get (s : ByteArray) (k : Nat) (h : k < s.size) : s.data.toList[k]? = some s[k] := by
  rw [List.getElem?_eq_getElem (by simpa using h)]; rfl
theorem cut_yes (s : ByteArray) (b : UInt8) (k : Nat) (h : k < s.size) (e : s[k] = b) : cutAt s b (k + 1) = (k + 1, (cutAt s b k).2 ++ [s.extract (cutAt s b k).1 k]) := by
  rw [cutAt, if_pos (by rw [at_get s k h, e]; simp)]
theorem cut_no (s : ByteArray) (b : UInt8) (k : Nat) (h : k < s.size) (e : ¬ s[k] = b) : cutAt s b (k + 1) = cutAt s b k := by
  rw [cutAt, if_neg (by rw [at_get s k h]; simpa using e)]
theorem byte_yes (x b : UInt8) (h : x = b) : ((x.toNat : Int) == b.toNat) = true := by rw [h]; simp
theorem byte_no (x b : UInt8) (h : ¬ x = b) : ((x.toNat : Int) == b.toNat) = false := by
  rw [beq_eq_false_iff_ne]; intro e; exact h (UInt8.toNat_inj.1 (by omega))
end Go.Proofs.YtlcgfohljkcngaaDoor.SplitPlain
