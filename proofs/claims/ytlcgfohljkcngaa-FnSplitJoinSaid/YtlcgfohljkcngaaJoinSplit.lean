/- Plain facts: joining the parts of a string by the byte at which it was cut gives the string, and no part has that byte; no condition on a program. -/
import Derived.Test.YtlcgfohljkcngaaJoinPlain
import Derived.Test.YtlcgfohljkcngaaSplitPlain
namespace Go.Proofs.Ytlcgfohljkcngaa.JoinSplit
open JoinPlain SplitPlain
theorem acc_pre (sep : ByteArray) (ps : List ByteArray) (x : ByteArray) (j : Nat) (hj : j ≤ ps.length) : acc sep (ps ++ [x]) j = acc sep ps j := by
  induction j with
  | zero => rfl
  | succ j ih =>
    have e : (ps ++ [x]).getD j ⟨#[]⟩ = ps.getD j ⟨#[]⟩ := by
      rw [List.getD_eq_getElem?_getD, List.getD_eq_getElem?_getD, List.getElem?_append_left (by omega)]
    show (if 0 < j then acc sep (ps ++ [x]) j ++ sep else acc sep (ps ++ [x]) j) ++ (ps ++ [x]).getD j ⟨#[]⟩ = (if 0 < j then acc sep ps j ++ sep else acc sep ps j) ++ ps.getD j ⟨#[]⟩
    rw [ih (by omega), e]
def lead (sep : ByteArray) (ps : List ByteArray) : ByteArray := if 0 < ps.length then acc sep ps ps.length ++ sep else acc sep ps ps.length
theorem acc_last (sep : ByteArray) (ps : List ByteArray) (x : ByteArray) : acc sep (ps ++ [x]) (ps ++ [x]).length = lead sep ps ++ x := by
  rw [List.length_append, List.length_singleton]
  show (if 0 < ps.length then acc sep (ps ++ [x]) ps.length ++ sep else acc sep (ps ++ [x]) ps.length) ++ (ps ++ [x]).getD ps.length ⟨#[]⟩ = _
  have e : (ps ++ [x]).getD ps.length ⟨#[]⟩ = x := by rw [List.getD_eq_getElem?_getD]; simp
  rw [acc_pre sep ps x _ (Nat.le_refl _), e]
  rfl
theorem ext_data (s : ByteArray) (f k : Nat) : (s.extract f k).data.toList = (s.data.toList.take k).drop f := by
  rw [ByteArray.data_extract, Array.toList_extract, List.extract_eq_take_drop, ← List.drop_take]
theorem ext_next (s : ByteArray) (f k : Nat) (hf : f ≤ k) (hk : k < s.size) : (s.extract f (k + 1)) = s.extract f k ++ ⟨#[s[k]]⟩ := by
  apply ByteArray.ext
  apply Array.toList_inj.1
  rw [ByteArray.data_append, Array.toList_append, ext_data, ext_data, List.take_succ_eq_append_getElem (by simpa using hk), List.drop_append_of_le_length (by simp; omega)]
  rfl
theorem app_assoc (a b c : ByteArray) : a ++ b ++ c = a ++ (b ++ c) := by
  apply ByteArray.ext; simp
theorem app_empty (s : ByteArray) (k : Nat) : s ++ s.extract k k = s := by
  apply ByteArray.ext; simp
theorem has_app (a b : List UInt8) (c : UInt8) : has (a ++ b) c = (has a c || has b c) := by simp [has]
theorem cl_app (ps : List ByteArray) (x : ByteArray) (b : UInt8) : cl (ps ++ [x]) b = (cl ps b && !has x.data.toList b) := by simp [cl]
/-- Behind k bytes: the parts so far, joined, are the first k bytes; none has the byte. -/
theorem at_k (s : ByteArray) (b : UInt8) (k : Nat) (hk : k ≤ s.size) :
    lead ⟨#[b]⟩ (cutAt s b k).2 ++ s.extract (cutAt s b k).1 k = s.extract 0 k ∧ cl ((cutAt s b k).2 ++ [s.extract (cutAt s b k).1 k]) b = true := by
  induction k with
  | zero =>
    refine ⟨?_, ?_⟩
    · apply ByteArray.ext; simp [lead, acc, cutAt]
    · simp [cutAt, cl, has]
  | succ k ih =>
    obtain ⟨i1, i2⟩ := ih (by omega)
    have hf := from_le s b k
    by_cases h : s[k] = b
    · rw [cut_yes s b k (by omega) h]
      dsimp only
      have e1 : lead ⟨#[b]⟩ ((cutAt s b k).2 ++ [s.extract (cutAt s b k).1 k]) = s.extract 0 k ++ ⟨#[b]⟩ := by
        unfold lead
        rw [if_pos (by simp), acc_last, i1]
      refine ⟨?_, ?_⟩
      · rw [e1, ext_next s 0 k (by omega) (by omega), h]
        apply ByteArray.ext; simp
      · rw [cl_app, i2, Bool.true_and]
        simp [has]
    · rw [cut_no s b k (by omega) h]
      refine ⟨?_, ?_⟩
      · rw [ext_next s _ k hf (by omega), ← app_assoc, i1, ← ext_next s 0 k (by omega) (by omega)]
      · rw [cl_app, Bool.and_eq_true] at i2 ⊢
        refine ⟨i2.1, ?_⟩
        rw [ext_next s _ k hf (by omega), ByteArray.data_append, Array.toList_append, has_app]
        have h2 : has (s.extract (cutAt s b k).1 k).data.toList b = false := by simpa using i2.2
        rw [h2]
        simp [has, h]
theorem ext_all (s : ByteArray) : s.extract 0 s.size = s := by
  apply ByteArray.ext
  simp
/-- Joining what was cut. -/
theorem parts_acc (s : ByteArray) (b : UInt8) : acc ⟨#[b]⟩ (parts s b) (parts s b).length = s := by
  have h := (at_k s b s.size (Nat.le_refl _)).1
  unfold parts
  rw [acc_last, h, ext_all]
theorem parts_cl (s : ByteArray) (b : UInt8) : cl (parts s b) b = true := (at_k s b s.size (Nat.le_refl _)).2
theorem parts_pos (s : ByteArray) (b : UInt8) : 1 ≤ (parts s b).length := by unfold parts; simp
theorem parts_tot (s : ByteArray) (b : UInt8) : (parts s b).length + tot (parts s b) = s.size + 1 := by
  have h := acc_size (sep := ⟨#[b]⟩) rfl (parts s b) (parts s b).length (Nat.le_refl _)
  rw [parts_acc, List.take_length] at h
  have := parts_pos s b
  omega
theorem one_sep (sep : ByteArray) (h0 : 0 < sep.size) (h1 : sep.size ≤ 1) : sep = ⟨#[sep[0]]⟩ := by
  have e : sep.size = 1 := by omega
  apply ByteArray.ext
  apply Array.ext
  · exact e
  · intro i hi hj
    have : i = 0 := by have : sep.data.size = 1 := e; omega
    subst this
    rfl
theorem parts_jn (s sep : ByteArray) (h0 : 0 < sep.size) (h1 : sep.size ≤ 1) (hs : s.size ≤ 4000) : jn sep sep[0] (parts s sep[0]) = some s := by
  have e := one_sep sep h0 h1
  have ha : acc sep (parts s sep[0]) (parts s sep[0]).length = s := by
    have h2 := parts_acc s sep[0]
    rwa [← e] at h2
  unfold jn
  rw [ha, if_pos ⟨parts_cl s _, hs⟩]
end Go.Proofs.Ytlcgfohljkcngaa.JoinSplit
