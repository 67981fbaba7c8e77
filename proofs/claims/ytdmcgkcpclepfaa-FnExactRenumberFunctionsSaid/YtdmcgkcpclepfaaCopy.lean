import Derived.Test.YtdmcgkcpclepfaaOwn
import Derived.Lib.SliceRun
set_option linter.all false
namespace Go.Proofs.Ytdmcgkcpclepfaa.CopyP
open Lib (hid)
open Go.ChangeShapes Go.WideShapes Go.ChangeAt Go.RowKit
open PL Mem To OwnS
def CloneR (n : Nat) (xs : List Tr) (w : World) (e : Ending) (w' : World) : Prop := ∃ A' c', e = .returned (.slice A' n c') ∧ w'.ownsRow w.heap.size 58 3 (.slice A' n c') n (cells3 xs) ∧ Below w.heap.size w w'
theorem clone_any (lo n c : Nat) (A : Option Addr) (xs : List Tr) (hn : n ≤ 100) (w : World) (ho : w.ownsRow lo 58 3 (.slice A n c) n (cells3 xs)) :
  Calls Try.prog 84 #[.slice A n c] w (CloneR n xs w) := by
 obtain ⟨i0, hi, hz0, hz1, hz2⟩ := info_parts infoStep
 have q := fun (w : World) (a : Option Addr) (n c n' c' : Nat) => Lib.run_eql_slice_nil (P := Try.prog) w _ _ a n c n' c' Try.underlying59
 have hO := hid ho
 rcases ho.2 with ⟨hv, rfl⟩ | ⟨g, cap, cur, hv, hB, hg, _⟩
 ·simp only [Value.slice.injEq] at hv
  obtain ⟨rfl, _, rfl⟩ := hv
  clear ho
  have hxs : cells3 xs = [] := List.eq_nil_of_length_eq_zero (by simpa using hO.out.1)
  have HX := hid hxs
  clear hxs
  go_enter Try.func84, Try.ntmps84
  go_wp2
  go_ret
  exact ⟨_, _, rfl, by rw [HX.out]; exact ⟨rfl, .inl ⟨rfl, rfl⟩⟩, Below.refl _ _⟩
 ·simp only [Value.slice.injEq, true_and] at hv
  obtain ⟨rfl, rfl⟩ := hv
  clear ho hg
  go_enter Try.func84, Try.ntmps84
  go_wp2_with (at_builtin; refine App.row_list _ rfl (.tmp 5) (.tmp 6) 59 rfl w.heap.size lo 58 i0 _ 3 24 Try.underlying59 hi hz0 hz1 hz2 rfl (by decide) (.slice (some ⟨w.heap.size, 0, none⟩) 0 0) 0 [] rfl (App.empty_own (heap1_0 w _) (Nat.le_refl _)) (.slice (some ⟨g, 0, none⟩) n c) n (cells3 xs) rfl (own_below hO.out ((App.Bl.refl w).alloc _) (Nat.le_refl _)) cells3_one (by unfold maxLen; omega) (by omega) (by simp) ?_)
  intro v1 w1 o1 g1 t1
  have B1 : App.Bl w w1 := ((App.Bl.refl w).alloc _).grown g1 (fun x hx => Nat.le_of_eq (by simpa [Value.ownBlock] using hx))
  clear g1 t1
  obtain ⟨A1, c1, rfl⟩ := own_slice o1
  have O1 := hid o1
  clear o1
  go_wp2
  go_ret
  exact ⟨_, _, rfl, O1.out, B1⟩
set_option maxHeartbeats 1000000 in
theorem copyProgram_any (lo n c : Nat) (A : Option Addr) (p : Pg) (hn : n ≤ 100) (hl : p.length = n) (hsm : Small p 100) (w : World) (ho : OwnP w lo (.slice A n c) p) :
  Calls Try.prog 71 #[.agg #[.slice A n c]] w (OwnS.Res p n w) := by
 obtain ⟨i0, hi, hz0, hz1, hz2⟩ := info_parts infoSteps
 have hmk := fun W => run_make_rowN (P := Try.prog) 29 59 i0 _ Try.underlying29 hi hz0 .i64 .i64 n n (Nat.le_refl _) (by rw [hz2]; omega) (by omega) W
 have hO := hid ho
 have hL := hid hl
 have hS := hid hsm
 clear hi hz0 hz2 ho hl hsm
 rw [hz1] at hmk
 go_enter Try.func71, Try.ntmps71
 go_wp2
 go_loopw [13] (fun i wr => ∃ (k : Nat) (vals : List Value), k ≤ n ∧ i = .int .i64 k ∧ wr.ownsRow w.heap.size 59 1 (.slice (some ⟨w.heap.size + 1 + 1, 0, none⟩) n n) n (vals ++ List.replicate (n - k) (.slice none 0 0)) ∧
   RowsAt wr (w.heap.size + 3) k vals p ∧ w.heap.size + 3 ≤ wr.heap.size ∧ Below w.heap.size w wr ∧ Blk wr (w.heap.size + 1) 31 #[.slice none 0 0]) (fun i _ => n - (intOf i).toNat)
 case atStart =>
  refine ⟨0, [], Nat.zero_le _, rfl, ?_, RowsAt.zero _ _ _, by simp, ((((Below.refl _ _).alloc (Nat.le_refl _) _).alloc (by simp) _).alloc (by simp; omega) _), heap3_1 _ _ _ _⟩
  have := World.ownsRow_lit (base := w.heap.size) (e := 59) (size := 1) ((w.alloc (.cells #[.slice A n c] 31)).alloc (.cells #[.slice none 0 0] 31)) (madeCells #[Value.slice none 0 0] (n * 1)) n (by simp; omega) (by unfold maxLen; omega) (size_madeCells _ _)
  rw [madeNil] at this
  simpa using this
 case round =>
  obtain ⟨k, vals, hk, rfl, hown, hrows, hsz, hb, hb1⟩ := hrel
  by_cases hlt : k < n
  ·obtain ⟨xs, hs⟩ : ∃ s, p[k]? = some s := ⟨_, List.getElem?_eq_getElem (by rw [hL.out]; exact hlt)⟩
   obtain ⟨g, Ai, ci, rfl, hc, hrow⟩ : ∃ g Ai ci, A = some ⟨g, 0, none⟩ ∧ w.cell? ⟨g, k, none⟩ = some (.slice Ai xs.length ci) ∧ w.ownsRow lo 58 3 (.slice Ai xs.length ci) xs.length (cells3 xs) := by
    obtain ⟨vs, h1, h2, h3, _⟩ := hO.out
    obtain ⟨u, hu, hou⟩ := h3 k xs hs
    obtain ⟨Ai, ci, rfl⟩ := own_slice hou
    rcases own_form h2 with ⟨h0, _⟩ | ⟨_, g, cap, hv, _, _⟩
    ·have := hL.out; omega
    ·simp only [Value.slice.injEq] at hv
     obtain ⟨rfl, hv1, rfl⟩ := hv
     rw [hv1] at h2
     have hce := h2.cellAt (g := g) k (by have := hL.out; omega)
     exact ⟨g, Ai, ci, rfl, hce.trans hu, hou⟩
   have hgl : g < w.heap.size := World.block_lt_of_cell? w _ hc
   have hcr : wr.cell? ⟨g, k, none⟩ = some (.slice Ai xs.length ci) := (hb.cell (p := ⟨g, k, none⟩) hgl).trans hc
   have HR := hid (own_below hrow hb (Nat.le_refl _))
   have hH := hid hs
   have hX := hid hown
   have hW := hid hrows
   have hQ := hid hb1
   have hxn := hS.out k xs hs
   clear hs hown hrows hc hrow hb1
   go_wp2_with fail
   refine (clone_any lo xs.length ci Ai xs hxn _ HR.out).mono ?_
   rintro e w1 ⟨A1, k1, rfl, ho1, hb1⟩
   have c1 := ((own_below hX.out hb1 (Nat.le_refl _)).cellAt k (by omega))
   have f1 := (own_below hX.out hb1 (Nat.le_refl _)).frozenAt k
   have hget : (vals ++ List.replicate (n - k) (Value.slice none 0 0))[k]? = some (.slice none 0 0) := by
    rw [List.getElem?_append_right (by rw [hW.out.1]; omega), hW.out.1, Nat.sub_self, show n - k = n - (k + 1) + 1 by omega, List.replicate_succ]; rfl
   rw [hget] at c1
   have O1 := hid ho1
   clear ho1 hget hcr
   go_wp2_with fail
   go_roundw
   case rel =>
    have hset : (vals ++ List.replicate (n - k) (Value.slice none 0 0)).set k (.slice A1 xs.length k1) = (vals ++ [.slice A1 xs.length k1]) ++ List.replicate (n - (k + 1)) (.slice none 0 0) := by
     rw [List.set_append_right _ _ (by rw [hW.out.1]; omega), hW.out.1, Nat.sub_self, show n - k = n - (k + 1) + 1 by omega, List.replicate_succ, List.set_cons_zero]; simp
    have st := ((own_below hX.out hb1 (Nat.le_refl _)).stored k (.slice A1 xs.length k1)).1
    rw [hset] at st
    refine ⟨k + 1, _, by omega, by go_num, st, ?_, ?_, ?_, (hQ.out.below hb1 hQ.out.lt).far _ _ (by show w.heap.size + 1 ≠ w.heap.size + 1 + 1; omega)⟩
    ·have := (hW.out.push hb1 hH.out (own_mono O1.out (by omega)) (fun x hx => (O1.out.lt x hx).1))
     exact this.chg (Chg.set _ _ _) (fun x hx _ => by show ¬ x = w.heap.size + 1 + 1; omega)
    ·have := hb1.size; simp [World.setCell]; omega
    ·exact (hb.trans (hb1.mono (by omega))).setCell (p := ⟨w.heap.size + 1 + 1, k, none⟩) (by show w.heap.size ≤ w.heap.size + 1 + 1; omega) _
   case measure => simp [intOf]; omega
  ·obtain rfl : k = n := by omega
   have hX := hid hown
   have hW := hid hrows
   have z1 : wr.cell? ⟨w.heap.size + 1, 0, none⟩ = some (.slice none 0 0) := hb1.cells 0
   have f1 := hb1.frozen 0
   clear hown hrows hb1
   go_wp2
   exact bodyPost_ret (v := .agg #[.slice (some ⟨w.heap.size + 1 + 1, 0, none⟩) k k]) (by simp [results, Try.results71, go_sem, z1]) rfl ⟨_, _, rfl, by
    have hO' := hX.out
    have hW' := hW.out
    have e := hL.out
    rw [Nat.sub_self, List.replicate_zero, List.append_nil] at hO'
    subst e
    exact RowsAt.own (hW'.chg (Chg.set wr ⟨w.heap.size + 1, 0, none⟩ _) (fun x hx _ => by show ¬ x = w.heap.size + 1; omega)) (by omega) (own_far hO' ⟨w.heap.size + 1, 0, none⟩ _ (by simp [Value.ownBlock])),
    hb.setCell (by show w.heap.size ≤ w.heap.size + 1; omega) _⟩
end Go.Proofs.Ytdmcgkcpclepfaa.CopyP
-- squeezed
