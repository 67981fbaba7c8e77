/- Plain facts on joining strings by a separator of one byte: what stands behind k elements, its size, and that it is the library's join; no condition on a program. -/
import Derived.Lib.Join
namespace Go.Proofs.Ytlcgfohljkcngaa.JoinPlain
def has (l : List UInt8) (b : UInt8) : Bool := l.any (fun c => c == b)
def cl (xs : List ByteArray) (b : UInt8) : Bool := xs.all (fun x => !has x.data.toList b)
def tot (xs : List ByteArray) : Nat := (xs.map ByteArray.size).sum
def acc (sep : ByteArray) (xs : List ByteArray) : Nat → ByteArray
  | 0 => ⟨#[]⟩
  | k + 1 => (if 0 < k then acc sep xs k ++ sep else acc sep xs k) ++ xs.getD k ⟨#[]⟩
theorem getD_of {xs : List ByteArray} {j : Nat} {x : ByteArray} (h : xs[j]? = some x) : xs.getD j ⟨#[]⟩ = x := by
  rw [List.getD_eq_getElem?_getD, h]; rfl
theorem take_snoc {xs : List ByteArray} {j : Nat} {x : ByteArray} (h : xs[j]? = some x) : xs.take (j + 1) = xs.take j ++ [x] := by
  rw [List.take_add_one, h]; rfl
theorem tot_snoc (l : List ByteArray) (x : ByteArray) : tot (l ++ [x]) = tot l + x.size := by simp [tot]
theorem tot_next {xs : List ByteArray} {j : Nat} {x : ByteArray} (h : xs[j]? = some x) : tot (xs.take (j + 1)) = tot (xs.take j) + x.size := by rw [take_snoc h, tot_snoc]
theorem tot_le (xs : List ByteArray) (j : Nat) : tot (xs.take j) ≤ tot xs := by
  have : tot xs = tot (xs.take j) + tot (xs.drop j) := by
    unfold tot
    rw [← List.sum_append, ← List.map_append, List.take_append_drop]
  omega
theorem cl_next {xs : List ByteArray} {j : Nat} {x : ByteArray} (b : UInt8) (h : xs[j]? = some x) : cl (xs.take (j + 1)) b = (cl (xs.take j) b && !has x.data.toList b) := by
  rw [take_snoc h]; simp [cl]
theorem cl_no {xs : List ByteArray} {j : Nat} {x : ByteArray} (b : UInt8) (h : xs[j]? = some x) (hh : has x.data.toList b = true) : cl xs b = false := by
  rw [cl, List.all_eq_false]
  exact ⟨x, List.mem_iff_getElem?.2 ⟨j, h⟩, by simp [hh]⟩
theorem cl_full {xs : List ByteArray} (b : UInt8) {j : Nat} (hj : xs.length ≤ j) (h : cl (xs.take j) b = true) : cl xs b = true := by rwa [List.take_of_length_le hj] at h
theorem acc_first {sep : ByteArray} {xs : List ByteArray} {x : ByteArray} (h : xs[0]? = some x) : acc sep xs 1 = acc sep xs 0 ++ x := by
  show (if 0 < 0 then acc sep xs 0 ++ sep else acc sep xs 0) ++ xs.getD 0 ⟨#[]⟩ = _
  rw [if_neg (by omega), getD_of h]
theorem acc_next {sep : ByteArray} {xs : List ByteArray} {j : Nat} {x : ByteArray} (hj : 0 < j) (h : xs[j]? = some x) : acc sep xs (j + 1) = acc sep xs j ++ sep ++ x := by
  show (if 0 < j then acc sep xs j ++ sep else acc sep xs j) ++ xs.getD j ⟨#[]⟩ = _
  rw [if_pos hj, getD_of h]
theorem acc_size {sep : ByteArray} (hs : sep.size = 1) (xs : List ByteArray) (k : Nat) (hk : k ≤ xs.length) : (acc sep xs k).size = (k - 1) + tot (xs.take k) := by
  induction k with
  | zero => simp [acc, tot, ByteArray.size]
  | succ k ih =>
    have hx : xs[k]? = some (xs[k]'(by omega)) := by simp
    have h0 := ih (by omega)
    rcases Nat.eq_zero_or_pos k with rfl | hp
    · rw [acc_first hx, ByteArray.size_append, h0, tot_next hx]; omega
    · rw [acc_next hp hx, ByteArray.size_append, ByteArray.size_append, h0, tot_next hx, hs]; omega
theorem acc_mono {sep : ByteArray} (hs : sep.size = 1) (xs : List ByteArray) (k : Nat) (hk : k ≤ xs.length) : (acc sep xs k).size ≤ (acc sep xs xs.length).size := by
  rw [acc_size hs xs k hk, acc_size hs xs xs.length (Nat.le_refl _), List.take_length]
  have := tot_le xs k
  omega
theorem acc_list (sep : ByteArray) (x : ByteArray) (r : List ByteArray) (k : Nat) (hk : k ≤ r.length) : (acc sep (x :: r) (k + 1)).data.toList = x.data.toList ++ Lib.joinTail sep.data.toList ((r.map (·.data.toList)).take k) := by
  induction k with
  | zero =>
    rw [acc_first (x := x) rfl]
    simp [acc, Lib.joinTail, ByteArray.data_append]
  | succ k ih =>
    have hx : (x :: r)[k + 1]? = some (r[k]'(by omega)) := by simp
    rw [acc_next (by omega) hx, ByteArray.data_append, ByteArray.data_append, Array.toList_append, Array.toList_append, ih (by omega), List.take_add_one]
    have hg : (r.map (·.data.toList))[k]? = some (r[k]'(by omega)).data.toList := by rw [List.getElem?_map, List.getElem?_eq_getElem (by omega)]; rfl
    rw [hg]
    simp [Lib.joinTail]
theorem join_acc (sep : ByteArray) (xs : List ByteArray) (h : xs ≠ []) : Lib.join (xs.map (·.data.toList)) sep.data.toList = (acc sep xs xs.length).data.toList := by
  cases xs with
  | nil => exact absurd rfl h
  | cons x r =>
    rw [List.length_cons, acc_list sep x r r.length (Nat.le_refl _), List.map_cons, Lib.join_cons, List.take_of_length_le (by simp)]
/-- What joining comes to, for a separator of one byte and at least one element. -/
def jn (sep : ByteArray) (b : UInt8) (xs : List ByteArray) : Option ByteArray := if cl xs b = true ∧ (acc sep xs xs.length).size ≤ 4000 then some (acc sep xs xs.length) else none
def outJ (o : Option ByteArray) : ByteArray × Bool := match o with | some t => (t, true) | none => (⟨#[]⟩, false)
/-- What is left of the law's budget, or -1. -/
def left (xs : List ByteArray) : Int := if xs.length + tot xs ≤ 1048576 then 1048576 - (xs.length : Int) - (tot xs : Int) else -1
end Go.Proofs.Ytlcgfohljkcngaa.JoinPlain
