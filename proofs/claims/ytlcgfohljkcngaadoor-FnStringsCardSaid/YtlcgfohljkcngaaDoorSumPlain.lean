/- Plain facts on the checksum of a list of bytes, as a number from 0 to 999978; no condition. -/
import Derived.Below
namespace Go.Proofs.YtlcgfohljkcngaaDoor.SumPlain
def step (h : Int) (c : UInt8) : Int := (41 * h + (c.toNat : Int) + 1) % 999979
def ck (l : List UInt8) : Int := l.foldl step 7
theorem step_bd (h : Int) (c : UInt8) : 0 ≤ step h c ∧ step h c ≤ 999978 := by unfold step; omega
theorem fold_bd (l : List UInt8) : ∀ h : Int, 0 ≤ h → h ≤ 999978 → 0 ≤ l.foldl step h ∧ l.foldl step h ≤ 999978 := by
  induction l with
  | nil => intro h a b; exact ⟨a, b⟩
  | cons c l ih => intro h _ _; exact ih _ (step_bd h c).1 (step_bd h c).2
theorem ck_bd (l : List UInt8) : 0 ≤ ck l ∧ ck l ≤ 999978 := fold_bd l 7 (by omega) (by omega)
theorem ck_snoc (l : List UInt8) (c : UInt8) : ck (l ++ [c]) = step (ck l) c := by simp [ck]
theorem take_snoc (s : ByteArray) (k : Nat) (h : k < s.size) : s.data.toList.take (k + 1) = s.data.toList.take k ++ [s[k]] := by
  rw [List.take_succ_eq_append_getElem (by simpa using h)]; rfl
theorem ck_next (s : ByteArray) (k : Nat) (h : k < s.size) : ck (s.data.toList.take (k + 1)) = (41 * ck (s.data.toList.take k) + (s[k].toNat : Int) + 1) % 999979 := by
  rw [take_snoc s k h, ck_snoc]; rfl
end Go.Proofs.YtlcgfohljkcngaaDoor.SumPlain
