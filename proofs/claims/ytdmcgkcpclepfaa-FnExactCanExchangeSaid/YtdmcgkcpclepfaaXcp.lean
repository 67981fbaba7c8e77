import Derived.Test.YtdmcgkcpclepfaaRunPlain
import Derived.Test.YtdmcgkcpclepfaaRes
import Derived.Test.YtdmcgkcpclepfaaSet
set_option linter.all false
namespace Go.Proofs.Ytdmcgkcpclepfaa.Xcp
open PL Res
def rdL (s : Tr) : List Int :=
 if s.1 = 2 then putS [s.2.1] s.2.2
 else if s.1 = 3 ∨ s.1 = 6 ∨ s.1 = 12 ∨ s.1 = 9 ∨ s.1 = 8 then [s.2.1]
 else if s.1 = 4 ∨ s.1 = 5 ∨ s.1 = 11 then [s.2.2]
 else []
def wrL (s : Tr) : List Int :=
 if s.1 = 1 ∨ s.1 = 2 ∨ s.1 = 13 then [s.2.1]
 else if s.1 = 8 then [1]
 else if s.1 = 4 then [2]
 else if s.1 = 7 then putS [s.2.1] 3
 else []
def isPlace (p : Pg) (f k : Int) : Bool := isFn p f && decide (0 ≤ k) && decide (k < (body p f).length)
def readsR (p : Pg) (f k : Int) : List Int × Bool := if isPlace p f k = true then (rdL ((body p f).getD k.toNat (0, 0, 0)), true) else ([], false)
def writesR (p : Pg) (f k : Int) : List Int × Bool := if isPlace p f k = true then (wrL ((body p f).getD k.toNat (0, 0, 0)), true) else ([], false)
theorem ok_kinds {n : Nat} {s : Tr} (h : okStep n s = true) : s.1 = 1 ∨ s.1 = 2 ∨ s.1 = 3 ∨ s.1 = 4 ∨ s.1 = 5 ∨ s.1 = 6 ∨ s.1 = 7 ∨ s.1 = 8 ∨ s.1 = 9 ∨ s.1 = 10 ∨ s.1 = 11 ∨ s.1 = 12 ∨ s.1 = 13 := by
 unfold okStep at h
 by_cases h1 : s.1 = 1; · omega
 by_cases h2 : s.1 = 2; · omega
 by_cases h4 : s.1 = 4 ∨ s.1 = 5; · omega
 by_cases h11 : s.1 = 11; · omega
 by_cases h10 : s.1 = 10; · omega
 rw [if_neg h1, if_neg h2, if_neg h4, if_neg h11, if_neg h10] at h
 by_cases h3 : s.1 = 3 ∨ s.1 = 6 ∨ s.1 = 7 ∨ s.1 = 8 ∨ s.1 = 9 ∨ s.1 = 12 ∨ s.1 = 13
 ·omega
 ·rw [if_neg h3] at h
  cases h
theorem reg_cases {r : Int} (h : isReg r = true) : r = 0 ∨ r = 1 ∨ r = 2 ∨ r = 3 := by
 unfold isReg at h
 simp only [Bool.and_eq_true, decide_eq_true_eq] at h
 omega
def usesA (k : Int) : Bool := k == 1 || k == 2 || k == 3 || k == 6 || k == 7 || k == 8 || k == 9 || k == 12 || k == 13
def usesB (k : Int) : Bool := k == 2 || k == 4 || k == 5 || k == 11
theorem ok_A {n : Nat} {s : Tr} (h : okStep n s = true) (hk : usesA s.1 = true) : isReg s.2.1 = true := by
 unfold okStep at h
 unfold usesA at hk
 simp only [Bool.or_eq_true, beq_iff_eq] at hk
 by_cases h1 : s.1 = 1
 ·rw [if_pos h1, Bool.and_eq_true] at h; exact h.1
 by_cases h2 : s.1 = 2
 ·rw [if_neg h1, if_pos h2, Bool.and_eq_true] at h; exact h.1
 rw [if_neg h1, if_neg h2, if_neg (by omega), if_neg (by omega), if_neg (by omega), if_pos (by omega), Bool.and_eq_true] at h
 exact h.1
theorem ok_B {n : Nat} {s : Tr} (h : okStep n s = true) (hk : usesB s.1 = true) : isReg s.2.2 = true := by
 unfold okStep at h
 unfold usesB at hk
 simp only [Bool.or_eq_true, beq_iff_eq] at hk
 by_cases h1 : s.1 = 1
 ·omega
 by_cases h2 : s.1 = 2
 ·rw [if_neg h1, if_pos h2, Bool.and_eq_true] at h; exact h.2
 by_cases h4 : s.1 = 4 ∨ s.1 = 5
 ·rw [if_neg h1, if_neg h2, if_pos h4, Bool.and_eq_true] at h; exact h.2
 rw [if_neg h1, if_neg h2, if_neg h4, if_pos (by omega), Bool.and_eq_true] at h
 exact h.2
def listB (b0 b1 b2 b3 : Bool) : List Int := (if b0 then [0] else []) ++ (if b1 then [1] else []) ++ (if b2 then [2] else []) ++ (if b3 then [3] else [])
def inB (l : List Int) (r : Int) : Bool := l.contains r
theorem list_one {r : Int} (h : isReg r = true) : listB (inB [r] 0) (inB [r] 1) (inB [r] 2) (inB [r] 3) = [r] := by
 rcases reg_cases h with rfl | rfl | rfl | rfl <;> rfl
theorem list_two {r t : Int} (h : isReg r = true) (h' : isReg t = true) : listB (inB (putS [r] t) 0) (inB (putS [r] t) 1) (inB (putS [r] t) 2) (inB (putS [r] t) 3) = putS [r] t := by
 rcases reg_cases h with rfl | rfl | rfl | rfl <;> rcases reg_cases h' with rfl | rfl | rfl | rfl <;> decide
theorem rd_kind {s : Tr} : rdL s = if s.1 = 2 then putS [s.2.1] s.2.2 else if s.1 = 3 ∨ s.1 = 6 ∨ s.1 = 12 ∨ s.1 = 9 ∨ s.1 = 8 then [s.2.1] else if s.1 = 4 ∨ s.1 = 5 ∨ s.1 = 11 then [s.2.2] else [] := rfl
theorem list_rd {n : Nat} {s : Tr} (h : okStep n s = true) : listB (inB (rdL s) 0) (inB (rdL s) 1) (inB (rdL s) 2) (inB (rdL s) 3) = rdL s := by
 unfold rdL
 have hA := ok_A h
 have hB := ok_B h
 unfold usesA at hA
 unfold usesB at hB
 simp only [Bool.or_eq_true, beq_iff_eq] at hA hB
 split
 ·exact list_two (hA (by omega)) (hB (by omega))
 ·split
  ·exact list_one (hA (by omega))
  ·split
   ·exact list_one (hB (by omega))
   ·rfl
theorem list_wr {n : Nat} {s : Tr} (h : okStep n s = true) : listB (inB (wrL s) 0) (inB (wrL s) 1) (inB (wrL s) 2) (inB (wrL s) 3) = wrL s := by
 unfold wrL
 have hA := ok_A h
 unfold usesA at hA
 simp only [Bool.or_eq_true, beq_iff_eq] at hA
 split
 ·exact list_one (hA (by omega))
 ·split
  ·rfl
  ·split
   ·rfl
   ·split
    ·exact list_two (hA (by omega)) rfl
    ·rfl
theorem rdL_len (s : Tr) : (rdL s).length ≤ 2 := by
 unfold rdL
 split
 ·exact Nat.le_trans (putS_len _ _) (by simp)
 ·split
  ·simp
  ·split <;> simp
theorem wrL_len (s : Tr) : (wrL s).length ≤ 2 := by
 unfold wrL
 split
 ·simp
 ·split
  ·simp
  ·split
   ·simp
   ·split
    ·exact Nat.le_trans (putS_len _ _) (by simp)
    ·simp
theorem readsR_len (p : Pg) (f k : Int) : (readsR p f k).1.length ≤ 100000 := by
 unfold readsR
 split
 ·exact Nat.le_trans (rdL_len _) (by omega)
 ·simp
theorem writesR_len (p : Pg) (f k : Int) : (writesR p f k).1.length ≤ 100000 := by
 unfold writesR
 split
 ·exact Nat.le_trans (wrL_len _) (by omega)
 ·simp
def plainS (s : Tr) : Bool := s.1 == 1 || s.1 == 2 || s.1 == 3 || s.1 == 12 || s.1 == 13
def shareS (s : Tr) : Bool := s.1 == 12 || s.1 == 13
def meetL (a b : List Int) : Bool := a.any (fun x => b.contains x)
def freeS (s t : Tr) : Bool := !meetL (wrL s) (rdL t) && !meetL (wrL s) (wrL t) && !meetL (wrL t) (rdL s)
def goesT (b : List Tr) (k : Int) : Bool := b.any (fun u => u.1 == 11 && u.2.1 == k)
def canS (b : List Tr) (k : Int) (s t : Tr) : Bool := plainS s && plainS t && !(s.1 == 3 && t.1 == 3) && !(shareS s && shareS t) && freeS s t && !goesT b (k + 1)
def isPair (p : Pg) (f k : Int) : Bool := isFn p f && decide (0 ≤ k) && decide (k + 1 < (body p f).length)
def stepAt (p : Pg) (f k : Int) : Tr := (body p f).getD k.toNat (0, 0, 0)
def canR (p : Pg) (f k : Int) : Bool × Bool := if isPair p f k = true then (canS (body p f) k (stepAt p f k) (stepAt p f (k + 1)), true) else (false, false)
def exR (p : Pg) (f k : Int) : Pg × Bool := if isPair p f k = true then (p.set f.toNat (((body p f).set k.toNat (stepAt p f (k + 1))).set (k.toNat + 1) (stepAt p f k)), true) else ([], false)
theorem ex_fits (p : Pg) (f k : Int) : Fits (exR p f k).1 := by
 unfold exR
 split
 ·rename_i h
  unfold isPair at h
  simp only [Bool.and_eq_true, decide_eq_true_eq] at h
  exact Fits.set (isFn_parts h.1.1).1 _ _ (by have := body_le h.1.1; simp; omega)
 ·exact Fits.nil
def inlS (p : Pg) (s : Tr) : Tr := if s.1 = 4 ∧ (p.getD s.2.1.toNat []).length = 0 then (1, 2, 0) else s
def inlR (p : Pg) (f : Int) : Pg × Bool := if isFn p f then (p.set f.toNat ((body p f).map (inlS p)), true) else ([], false)
theorem inl_fits (p : Pg) (f : Int) : Fits (inlR p f).1 := by
 unfold inlR
 split
 ·rename_i h
  exact Fits.set (isFn_parts h).1 _ _ (by have := body_le h; simp; omega)
 ·exact Fits.nil
end Go.Proofs.Ytdmcgkcpclepfaa.Xcp
-- squeezed
