import Derived.Test.YtdmcgkcpclepfaaNup
import Derived.Test.YtdmcgkcpclepfaaSetM
import Derived.Test.YtdmcgkcpclepfaaDefer2
set_option linter.all false
namespace Go.Proofs.Ytdmcgkcpclepfaa.Nur
open Lib (hid)
open Go.ChangeShapes Go.WideShapes Go.ChangeAt Go.RowKit
open PL Mem To OwnS DeferP DeferW Res IntsP Nup
def RenR (lo n c : Nat) (A : Option Addr) (xs : List Tr) (tn : List Int) (w : World) (e : Ending) (w' : World) : Prop :=
 e = .returned (.tuple #[]) ∧ w'.ownsRow lo 58 3 (.slice A n c) n (cells3 (numB tn xs)) ∧ Chg (fun b => (Value.slice A n c).ownBlock = some b) w w'
set_option maxHeartbeats 4000000 in
theorem ren_any (lo n c nn ct B : Nat) (A At : Option Addr) (xs : List Tr) (tn : List Int) (hn : n ≤ 100) (hl : xs.length = n) (hto : tn.length = nn) (hnn : nn ≤ 100)
  (hj : ∀ (i : Nat) (s : Tr), xs[i]? = some s → s.1 = 4 ∨ s.1 = 5 → 0 ≤ s.2.1 ∧ s.2.1 < nn) (w : World) (ho : w.ownsRow lo 58 3 (.slice A n c) n (cells3 xs)) (hrt : RdI w w.heap.size At tn)
  (hne : ∀ x, (Value.slice A n c).ownBlock = some x → ∀ ad, At = some ad → ad.block ≠ x) :
  Calls Try.prog 80 #[.slice A n c, .slice At nn ct] w (RenR lo n c A xs tn w) := by
 have hO0 := hid ho
 have hL := hid hl
 have hJ := hid hj
 have HT := hid hto
 have HRT := hid (fun (V : World) (cg : Chg (fun b => (Value.slice A n c).ownBlock = some b) w V) (a : Nat) (t : Int) (h : tn[a]? = some t) => (show ∃ ad, At = some ad ∧ ad.block < w.heap.size ∧ V.cell? (ad.add a) = some (.int .i64 t) from by
  obtain ⟨ad, e, hb, h0⟩ := hrt a t h
  refine ⟨ad, e, hb, (cg.cell (by rw [block_of_add]; exact hb) (fun hx => ?_)).trans h0⟩
  rw [block_of_add] at hx
  exact hne _ hx ad e rfl))
 clear ho hl hj hto hrt hne
 go_enter Try.func80, Try.ntmps80
 go_wp2
 go_loopw [8] (fun i wr => ∃ j : Nat, j ≤ n ∧ i = .int .i64 j ∧ wr.ownsRow lo 58 3 (.slice A n c) n (cells3 (dpart (numS tn) xs j)) ∧ Chg (fun b => (Value.slice A n c).ownBlock = some b) w wr) (fun i _ => n - (intOf i).toNat)
 case atStart => exact ⟨0, Nat.zero_le _, rfl, by simpa [dpart] using hO0.out, Chg.refl _ _⟩
 case round =>
  obtain ⟨j, hj, rfl, hown, hch⟩ := hrel
  have HO := hid hown
  have HC := hid hch
  have hcs := hch.size
  by_cases hlt : j < n
  ·obtain ⟨⟨s0, s1, s2⟩, hsx⟩ : ∃ s, xs[j]? = some s := ⟨_, List.getElem?_eq_getElem (by rw [hL.out]; exact hlt)⟩
   have hps := part_at (numS tn) xs j _ hsx
   obtain ⟨gi, rfl, hgi, a0, a1, a2, a3, z0, z1, z2, z3, z4⟩ := own_at hown hps hlt
   have HS := hid hsx
   have HPS := hid hps
   dsimp only at a0 a2 z0 z1 z2
   by_cases h4 : s0 = 4 ∨ s0 = 5
   ·obtain ⟨j0, j1⟩ := hJ.out j _ hsx h4
    dsimp only at j0 j1
    obtain ⟨a, rfl⟩ := Int.eq_ofNat_of_zero_le j0
    obtain ⟨t, ht⟩ : ∃ t, tn[a]? = some t := ⟨_, List.getElem?_eq_getElem (by rw [HT.out]; omega)⟩
    obtain ⟨ad, rfl, hadb, h2⟩ := HRT.out wr hch a t ht
    have h2a : ∀ o, (wr.alloc o).cell? (ad.add a) = some (.int .i64 t) := fun o => (((Below.refl wr.heap.size wr).alloc (Nat.le_refl _) o).cell (by rw [block_of_add]; omega)).trans h2
    have HMV := hid (show numS tn (s0, (a : Int), s2) = (s0, t, s2) by unfold numS; rw [if_pos h4, Int.toNat_natCast, List.getD_eq_getElem?_getD, ht]; rfl)
    clear hown hsx hps hch ht j0
    rcases h4 with rfl | rfl
    ·go_wp2
     go_roundw
     case rel =>
      refine ⟨j + 1, by omega, by go_num, ?_, ?_⟩
      ·have := own_put1 (a := t) HO.out rfl HPS.out
       dsimp only at this
       rw [← HMV.out, part_next (numS tn) xs j _ HS.out] at this
       exact this.alloc _
      ·refine Chg.new (Chg.put HC.out _ _ ?_) _
       exact .inr rfl
     case measure => simp [intOf]; omega
    ·go_wp2
     go_roundw
     case rel =>
      refine ⟨j + 1, by omega, by go_num, ?_, ?_⟩
      ·have := own_put1 (a := t) HO.out rfl HPS.out
       dsimp only at this
       rw [← HMV.out, part_next (numS tn) xs j _ HS.out] at this
       exact this.alloc _
      ·refine Chg.new (Chg.put HC.out _ _ ?_) _
       exact .inr rfl
     case measure => simp [intOf]; omega
   ·have HMV := hid (show numS tn (s0, s1, s2) = (s0, s1, s2) by unfold numS; rw [if_neg h4])
    have k4 : (s0 == 4) = false := by simp; omega
    have k5 : (s0 == 5) = false := by simp; omega
    clear hown hsx hps hch h4
    go_wp2
    go_roundw
    case rel =>
     refine ⟨j + 1, by omega, by go_num, ?_, HC.out.new _⟩
     rw [← part_same (numS tn) xs j _ HS.out HMV.out]
     exact HO.out.alloc _
    case measure => simp [intOf]; omega
  ·obtain rfl : j = n := by omega
   have e := part_all (numS tn) xs j hL.out.symm
   have HE := hid e
   clear hown e hch
   go_wp2
   exact bodyPost_ret (v := .tuple #[]) (by simp [results, Try.results80, go_sem]) rfl ⟨rfl, by unfold numB; rw [← HE.out]; exact HO.out, HC.out⟩
end Go.Proofs.Ytdmcgkcpclepfaa.Nur
-- squeezed
