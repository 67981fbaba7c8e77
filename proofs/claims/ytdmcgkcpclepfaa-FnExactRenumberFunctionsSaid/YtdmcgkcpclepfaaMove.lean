import Derived.Test.YtdmcgkcpclepfaaDel
set_option linter.all false
namespace Go.Proofs.Ytdmcgkcpclepfaa.MoveP
open Lib (hid)
open Go.ChangeShapes Go.WideShapes Go.ChangeAt Go.RowKit
open PL Mem To OwnS DeferP DeferW Res
def MoveR (lo n c : Nat) (A : Option Addr) (xs : List Tr) (k y : Int) (w : World) (e : Ending) (w' : World) : Prop :=
 e = .returned (.tuple #[]) ∧ w'.ownsRow lo 58 3 (.slice A n c) n (cells3 (xs.map (moveS k y))) ∧ Chg (fun b => (Value.slice A n c).ownBlock = some b) w w'
def JumpOk (xs : List Tr) : Prop := ∀ (i : Nat) (s : Tr), xs[i]? = some s → s.1 = 11 → 0 ≤ s.2.1 ∧ s.2.1 ≤ 8
set_option maxHeartbeats 2000000 in
theorem move_any (lo n c : Nat) (A : Option Addr) (xs : List Tr) (k y : Int) (hn : n ≤ 100) (hl : xs.length = n) (hj : JumpOk xs) (hy : -1 ≤ y ∧ y ≤ 1) (w : World) (ho : w.ownsRow lo 58 3 (.slice A n c) n (cells3 xs)) :
  Calls Try.prog 127 #[.slice A n c, .int .i64 k, .int .i64 y] w (MoveR lo n c A xs k y w) := by
 obtain ⟨y0, y1⟩ := hy
 have hO0 := hid ho
 have hL := hid hl
 have hJ := hid hj
 clear ho hl hj
 go_enter Try.func127, Try.ntmps127
 go_wp2
 go_loopw [10] (fun i wr => ∃ j : Nat, j ≤ n ∧ i = .int .i64 j ∧ wr.ownsRow lo 58 3 (.slice A n c) n (cells3 (dpart (moveS k y) xs j)) ∧ Chg (fun b => (Value.slice A n c).ownBlock = some b) w wr) (fun i _ => n - (intOf i).toNat)
 case atStart => exact ⟨0, Nat.zero_le _, rfl, by simpa [dpart] using hO0.out, Chg.refl _ _⟩
 case round =>
  obtain ⟨j, hj, rfl, hown, hch⟩ := hrel
  have HO := hid hown
  have HC := hid hch
  clear hch
  by_cases hlt : j < n
  ·obtain ⟨s, hsx⟩ : ∃ s, xs[j]? = some s := ⟨_, List.getElem?_eq_getElem (by rw [hL.out]; exact hlt)⟩
   have hps := part_at (moveS k y) xs j s hsx
   obtain ⟨gi, rfl, hgi, a0, a1, a2, a3, z0, z1, z2, z3, z4⟩ := own_at hown hps hlt
   have HS := hid hsx
   have HPS := hid hps
   clear hown hsx hps
   by_cases h4 : s.1 = 11
   ·obtain ⟨j0, j1⟩ := hJ.out j s HS.out h4
    have H4 := hid h4
    rw [h4] at a0 z0
    clear h4
    by_cases h5 : k ≤ s.2.1
    ·have hmv := hid (show moveS k y s = (s.1, min (s.2.1 + y) 8, s.2.2) by unfold moveS; rw [if_pos ⟨H4.out, h5⟩])
     have j2 : -1 ≤ s.2.1 + y := by omega
     have j3 : s.2.1 + y ≤ 9 := by omega
     go_wp2
     go_roundw
     case rel =>
      refine ⟨j + 1, by omega, by go_num, ?_, ?_⟩
      ·have := own_put1 (a := if 8 < s.2.1 + y then 8 else s.2.1 + y) HO.out rfl HPS.out
       rw [show (s.1, (if 8 < s.2.1 + y then 8 else s.2.1 + y), s.2.2) = moveS k y s by rw [hmv.out]; congr 2; omega, part_next (moveS k y) xs j s HS.out] at this
       exact this.alloc _
      ·refine Chg.new (Chg.put HC.out _ _ ?_) _
       exact .inr rfl
     case measure => simp [intOf]; omega
    ·have hmv := hid (show moveS k y s = s by unfold moveS; rw [if_neg (by omega)])
     have hd : decide (k ≤ s.2.1) = false := by simpa using h5
     go_wp2
     go_roundw
     case rel =>
      refine ⟨j + 1, by omega, by go_num, ?_, HC.out.new _⟩
      rw [← part_same (moveS k y) xs j s HS.out hmv.out]
      exact HO.out.alloc _
     case measure => simp [intOf]; omega
   ·have hd : (s.1 == 11) = false := by simpa using h4
    have hmv := hid (show moveS k y s = s by unfold moveS; rw [if_neg (by omega)])
    clear h4
    go_wp2
    go_roundw
    case rel =>
     refine ⟨j + 1, by omega, by go_num, ?_, HC.out.new _⟩
     rw [← part_same (moveS k y) xs j s HS.out hmv.out]
     exact HO.out.alloc _
    case measure => simp [intOf]; omega
  ·obtain rfl : j = n := by omega
   have e := part_all (moveS k y) xs j hL.out.symm
   have HE := hid e
   clear hown e
   go_wp2
   exact bodyPost_ret (v := .tuple #[]) (by simp [results, Try.results127, go_sem]) rfl ⟨rfl, by rw [← HE.out]; exact HO.out, HC.out⟩
end Go.Proofs.Ytdmcgkcpclepfaa.MoveP
-- squeezed
