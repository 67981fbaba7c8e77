import Derived.Test.YtdmcgkcpclepfaaRunPlain
set_option linter.all false
namespace Go.Proofs.Ytdmcgkcpclepfaa.Res
open PL
def isFn (p : Pg) (f : Int) : Bool := okProg p && decide (0 ≤ f) && decide (f < p.length)
def body (p : Pg) (f : Int) : List Tr := p.getD f.toNat []
def deferS (s : Tr) : Tr := if s.1 = 4 then (5, s.2.1, s.2.2) else s
def deferP (p : Pg) (f : Int) : Pg := p.set f.toNat ((body p f).map deferS)
def deferR (p : Pg) (f : Int) : Pg × Bool := if isFn p f then (deferP p f, true) else ([], false)
def moveS (k by' : Int) (s : Tr) : Tr := if s.1 = 11 ∧ k ≤ s.2.1 then (s.1, min (s.2.1 + by') 8, s.2.2) else s
def putB (b : List Tr) (k : Nat) (s : Tr) : List Tr := (b.take k).map (moveS k 1) ++ s :: (b.drop k).map (moveS k 1)
def putR (p : Pg) (f k : Int) (s : Tr) : Pg × Bool :=
 if isFn p f && okStep p.length s && decide ((body p f).length ≠ 8) && decide (0 ≤ k) && decide (k ≤ (body p f).length) then (p.set f.toNat (putB (body p f) k.toNat s), true) else ([], false)
def dropB (b : List Tr) (k : Nat) : List Tr := (b.take k).map (moveS (k + 1) (-1)) ++ (b.drop (k + 1)).map (moveS (k + 1) (-1))
def dropR (p : Pg) (f k : Int) : Pg × Bool :=
 if isFn p f && decide (0 ≤ k) && decide (k < (body p f).length) then (p.set f.toNat (dropB (body p f) k.toNat), true) else ([], false)
def stackP : Pg := [[(1, 3, -1), (5, 1, 0), (2, 0, 3), (11, 1, 0)], [(3, 0, 0)]]
theorem okProg_parts {p : Pg} (h : okProg p = true) : 1 ≤ p.length ∧ p.length ≤ 6 ∧ (∀ (i : Nat) (xs : List Tr), p[i]? = some xs → xs.length ≤ 8 ∧ ∀ s ∈ xs, okStep p.length s = true) := by
 simp only [okProg, Bool.and_eq_true, decide_eq_true_eq, List.all_eq_true] at h
 refine ⟨h.1.1, h.1.2, fun i xs hx => ?_⟩
 have := h.2 xs (List.mem_of_getElem? hx)
 simp only [okBody, Bool.and_eq_true, decide_eq_true_eq, List.all_eq_true] at this
 exact this
theorem isFn_parts {p : Pg} {f : Int} (h : isFn p f = true) : okProg p = true ∧ 0 ≤ f ∧ f < p.length ∧ p[f.toNat]? = some (body p f) := by
 simp only [isFn, Bool.and_eq_true, decide_eq_true_eq] at h
 refine ⟨h.1.1, h.1.2, h.2, ?_⟩
 have hl : f.toNat < p.length := by omega
 simp [body, hl]
theorem body_le {p : Pg} {f : Int} (h : isFn p f = true) : (body p f).length ≤ 8 := by
 obtain ⟨a, _, _, b⟩ := isFn_parts h
 exact ((okProg_parts a).2.2 _ _ b).1
theorem sum_le (p : Pg) (k : Nat) (h : ∀ xs ∈ p, xs.length ≤ k) : (p.map List.length).sum ≤ p.length * k := by
 induction p with
 | nil => simp
 | cons xs p ih =>
  have h1 := h xs (by simp)
  have h2 := ih (fun y hy => h y (by simp [hy]))
  simp only [List.map_cons, List.sum_cons, List.length_cons, Nat.add_mul, Nat.one_mul]
  omega
def Fits (q : Pg) : Prop := q.length ≤ 6 ∧ ∀ xs ∈ q, xs.length ≤ 9
theorem Fits.nil : Fits [] := ⟨by simp, by simp⟩
theorem Fits.set {p : Pg} (h : okProg p = true) (i : Nat) (xs : List Tr) (hx : xs.length ≤ 9) : Fits (p.set i xs) := by
 obtain ⟨_, h2, h3⟩ := okProg_parts h
 refine ⟨by simpa using h2, fun ys hy => ?_⟩
 rcases List.mem_or_eq_of_mem_set hy with hy | rfl
 ·obtain ⟨j, hj⟩ := List.getElem?_of_mem hy
  have := (h3 j ys hj).1
  omega
 ·exact hx
theorem defer_fits (p : Pg) (f : Int) : Fits (deferR p f).1 := by
 unfold deferR
 split
 ·rename_i h
  exact Fits.set (isFn_parts h).1 _ _ (by have := body_le h; simp; omega)
 ·exact Fits.nil
theorem put_fits (p : Pg) (f k : Int) (s : Tr) : Fits (putR p f k s).1 := by
 unfold putR
 split
 ·rename_i h
  simp only [Bool.and_eq_true, decide_eq_true_eq] at h
  refine Fits.set (isFn_parts h.1.1.1.1).1 _ _ ?_
  have := body_le h.1.1.1.1
  simp [putB]; omega
 ·exact Fits.nil
theorem drop_fits (p : Pg) (f k : Int) : Fits (dropR p f k).1 := by
 unfold dropR
 split
 ·rename_i h
  simp only [Bool.and_eq_true, decide_eq_true_eq] at h
  refine Fits.set (isFn_parts h.1.1).1 _ _ ?_
  have := body_le h.1.1
  simp [dropB]; omega
 ·exact Fits.nil
theorem stack_fits : Fits stackP := ⟨by decide, by decide⟩
end Go.Proofs.Ytdmcgkcpclepfaa.Res
-- squeezed
