set_option linter.all false
namespace Go.Proofs.Ytdmcgkcpclepfaa.PL
abbrev Tr := Int × Int × Int
abbrev Pg := List (List Tr)
def isReg (r : Int) : Bool := decide (0 ≤ r) && decide (r ≤ 3)
def isNum (n : Int) : Bool := decide (-32768 ≤ n) && decide (n ≤ 32767)
def okStep (n : Nat) (s : Tr) : Bool :=
 if s.1 = 1 then isReg s.2.1 && isNum s.2.2
 else if s.1 = 2 then isReg s.2.1 && isReg s.2.2
 else if s.1 = 4 ∨ s.1 = 5 then decide (0 ≤ s.2.1) && decide (s.2.1 < n) && isReg s.2.2
 else if s.1 = 11 then decide (0 ≤ s.2.1) && decide (s.2.1 ≤ 8) && isReg s.2.2
 else if s.1 = 10 then decide (s.2.1 = 0) && decide (s.2.2 = 0)
 else if s.1 = 3 ∨ s.1 = 6 ∨ s.1 = 7 ∨ s.1 = 8 ∨ s.1 = 9 ∨ s.1 = 12 ∨ s.1 = 13 then isReg s.2.1 && decide (s.2.2 = 0)
 else false
def okBody (n : Nat) (b : List Tr) : Bool := decide (b.length ≤ 8) && b.all (okStep n)
def okProg (p : Pg) : Bool := decide (1 ≤ p.length) && decide (p.length ≤ 6) && p.all (okBody p.length)
end Go.Proofs.Ytdmcgkcpclepfaa.PL
-- squeezed
