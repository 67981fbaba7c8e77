import Derived.Test.YtdmcgkcpclepfaaMem
import Derived.Test.YtdmcgkcpclepfaaRun
import Derived.Deep.AppendLies
import Derived.Maps.AppendAt
import Derived.Deep.RegionHeld3
import Derived.Deep.RegionLaw
set_option linter.all false
namespace Go.Proofs.Ytdmcgkcpclepfaa.Srun
open Go.ChangeShapes Go.WideShapes Go.ChangeAt Go.RowKit
open PL Mem
def mval (vp : Value) (fuel : Int) (m : M) (tv sv : Value) : Value :=
 .agg #[vp, .int .i64 fuel, .bool m.spent, .int .i64 m.shared, .int .i64 m.made, .int .i64 m.deep, tv, sv]
def fval (c : Fr) (dv : Value) : Value :=
 .agg #[.int .i64 c.f, .int .i64 c.depth, .int .i64 c.r0, .int .i64 c.r1, .int .i64 c.r2, .int .i64 c.r3, dv, .int .i64 c.kind, .int .i64 c.value, .bool c.leaving, .bool c.deferred, .bool c.panicking, .int .i64 c.panic, .bool c.recovered, .int .i64 c.outer]
def c2 (s : Int × Int) : List Value := [.int .i64 s.1, .int .i64 s.2]
def cells2 (l : List (Int × Int)) : List Value := l.flatMap c2
theorem cells2_cons (s : Int × Int) (l : List (Int × Int)) : cells2 (s :: l) = .int .i64 s.1 :: .int .i64 s.2 :: cells2 l := rfl
theorem cells2_append (a b : List (Int × Int)) : cells2 (a ++ b) = cells2 a ++ cells2 b := by simp [cells2]
theorem cells2_length (l : List (Int × Int)) : (cells2 l).length = l.length * 2 := by
 induction l with
 | nil => rfl
 | cons s l ih => rw [cells2_cons]; simp only [List.length_cons, ih]; omega
theorem cells2_at : ∀ (l : List (Int × Int)) (j : Nat) (s : Int × Int), l[j]? = some s → (cells2 l)[j * 2]? = some (.int .i64 s.1) ∧ (cells2 l)[j * 2 + 1]? = some (.int .i64 s.2)
 | [], j, s, h => by simp at h
 | a :: l, 0, s, h => by
  obtain rfl : a = s := by simpa using h
  exact ⟨rfl, rfl⟩
 | a :: l, j + 1, s, h => by
  have := cells2_at l j s (by simpa using h)
  rw [show (j + 1) * 2 = j * 2 + 2 by omega, cells2_cons]
  simpa [show j * 2 + 2 + 1 = j * 2 + 1 + 2 by omega] using this
theorem infoP2 : (Try.prog.info? 85).map (fun i => (i.zero, i.size, i.bytes)) = some (some (.agg #[.int .i64 0, .int .i64 0]), 2, 16) := by kernel_rfl
def Prs (w : World) (lo : Nat) (v : Value) (l : List (Int × Int)) : Prop := w.ownsRow lo 85 2 v l.length (cells2 l)
theorem Prs.chg {C : Nat → Prop} {w w' : World} {lo : Nat} {v : Value} {l : List (Int × Int)} (h : Prs w lo v l) (hb : Chg C w w') (hC : ∀ k, v.ownBlock = some k → ¬ C k) : Prs w' lo v l := own_chg h hb hC
theorem Prs.below {w w' : World} {lo : Nat} {v : Value} {l : List (Int × Int)} (h : Prs w lo v l) (hb : Below w.heap.size w w') : Prs w' lo v l := own_below h hb (Nat.le_refl _)
theorem apart {w : World} {lo lo' n m sz sz' e e' : Nat} {v v' : Value} {l l' : List Value} (h : w.ownsRow lo e sz v n l) (h' : w.ownsRow lo' e' sz' v' m l') (hne : e ≠ e') : ∀ k, v.ownBlock = some k → v'.ownBlock ≠ some k := by
 intro k hk hk'
 rcases h.2 with ⟨rfl, _⟩ | ⟨g, cap, cur, rfl, _, hg, _⟩
 ·simp [Value.ownBlock] at hk
 ·rcases h'.2 with ⟨rfl, _⟩ | ⟨g', cap', cur', rfl, _, hg', _⟩
  ·simp [Value.ownBlock] at hk'
  ·simp [Value.ownBlock] at hk hk'
   subst hk
   subst hk'
   rw [hg] at hg'
   injection hg' with hg'
   injection hg' with _ ht
   exact hne ht
def mx (a b : Int) : Int := if a > b then a else b
theorem most_any (a b : Int) (w : World) : Calls Try.prog 115 #[.int .i64 a, .int .i64 b] w fun e w' => e = .returned (.int .i64 (mx a b)) ∧ w = w' := by
 by_cases h : a > b
 ·have hs := Lib.hid (show mx a b = a from if_pos h)
  go_enter Try.func115, Try.ntmps115
  go_wp2_with fail
  go_ret
  exact ⟨by rw [hs.out]; rfl, rfl⟩
 ·have hs := Lib.hid (show mx a b = b from if_neg h)
  go_enter Try.func115, Try.ntmps115
  go_wp2_with fail
  go_ret
  exact ⟨by rw [hs.out]; rfl, rfl⟩
end Go.Proofs.Ytdmcgkcpclepfaa.Srun
-- squeezed
