import Derived.Test.YtdmcgkcpclepfaaXcp
set_option linter.all false
namespace Go.Proofs.Ytdmcgkcpclepfaa.Cxp
open PL Res Xcp
def meetB (b c : Int → Bool) : Bool := b 0 && c 0 || (b 1 && c 1 || (b 2 && c 2 || b 3 && c 3))
theorem meetB_comm (b c : Int → Bool) : meetB b c = meetB c b := by
 unfold meetB
 rw [Bool.and_comm (b 0), Bool.and_comm (b 1), Bool.and_comm (b 2), Bool.and_comm (b 3)]
def Regs (l : List Int) : Prop := ∀ x ∈ l, isReg x = true
theorem meet_in {a b : List Int} (h : Regs a) : meetB (inB a) (inB b) = meetL a b := by
 rw [Bool.eq_iff_iff]
 unfold meetB meetL inB
 simp only [Bool.or_eq_true, Bool.and_eq_true, List.contains_iff_mem, List.any_eq_true]
 constructor
 ·rintro (⟨h1, h2⟩ | ⟨h1, h2⟩ | ⟨h1, h2⟩ | ⟨h1, h2⟩) <;> exact ⟨_, h1, h2⟩
 ·rintro ⟨x, h1, h2⟩
  rcases reg_cases (h x h1) with rfl | rfl | rfl | rfl
  ·exact .inl ⟨h1, h2⟩
  ·exact .inr (.inl ⟨h1, h2⟩)
  ·exact .inr (.inr (.inl ⟨h1, h2⟩))
  ·exact .inr (.inr (.inr ⟨h1, h2⟩))
theorem putS_regs {a : List Int} {x : Int} (h : Regs a) (hx : isReg x = true) : Regs (putS a x) := by
 intro y hy
 rcases putS_mem.1 hy with hy | rfl
 ·exact h y hy
 ·exact hx
theorem one_regs {x : Int} (hx : isReg x = true) : Regs [x] := by
 intro y hy
 obtain rfl := List.mem_singleton.1 hy
 exact hx
theorem wr_regs {n : Nat} {s : Tr} (h : okStep n s = true) : Regs (wrL s) := by
 have hA := ok_A h
 unfold usesA at hA
 simp only [Bool.or_eq_true, beq_iff_eq] at hA
 unfold wrL
 split
 ·exact one_regs (hA (by omega))
 ·split
  ·exact one_regs rfl
  ·split
   ·exact one_regs rfl
   ·split
    ·exact putS_regs (one_regs (hA (by omega))) rfl
    ·intro y hy; cases hy
theorem meet_comm {n : Nat} {s t : Tr} (h : okStep n s = true) (h' : okStep n t = true) : meetL (wrL s) (wrL t) = meetL (wrL t) (wrL s) := by
 rw [← meet_in (wr_regs h), ← meet_in (wr_regs h'), meetB_comm]
def distS (s t : Tr) : Bool := meetL (wrL s) (rdL t) || meetL (wrL s) (wrL t)
def ordS (s t : Tr) : Bool := (s.1 == 3 && t.1 == 3) || (shareS s && shareS t)
theorem canS_eq {n : Nat} {b : List Tr} {k : Int} {s t : Tr} (h : okStep n s = true) (h' : okStep n t = true) :
  canS b k s t = (plainS s && plainS t && !ordS s t && !distS s t && !distS t s && !goesT b (k + 1)) := by
 unfold canS ordS distS freeS
 rw [meet_comm h' h]
 cases plainS s <;> cases plainS t <;> cases (s.1 == 3 && t.1 == 3) <;> cases (shareS s && shareS t) <;> cases meetL (wrL s) (rdL t) <;> cases meetL (wrL s) (wrL t) <;> cases meetL (wrL t) (rdL s) <;> cases goesT b (k + 1) <;> rfl
theorem plain_has (k : Int) : ([1, 2, 3, 12, 13] : List Int).contains k = (k == 1 || k == 2 || k == 3 || k == 12 || k == 13) := by
 simp only [List.contains_cons, List.contains_nil, Bool.or_false, Bool.or_assoc]
end Go.Proofs.Ytdmcgkcpclepfaa.Cxp
-- squeezed
