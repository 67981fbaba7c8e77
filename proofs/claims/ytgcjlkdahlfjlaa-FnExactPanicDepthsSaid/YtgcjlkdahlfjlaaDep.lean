/- DepthsOf: spec and impl. (Written by wip/tools/gendep.py.) -/
import Derived.Test.YtgcjlkdahlfjlaaTree
import Derived.Test.YtgcjlkdahlfjlaaM23
import Derived.Test.YtgcjlkdahlfjlaaM2
import Derived.Deep.AppendLies
import Derived.BigRegion
namespace Go.Proofs.Ytgcjlkdahlfjlaa.DepQ
set_option linter.unusedVariables false
set_option linter.unusedSimpArgs false
open Go.ChangeShapes Go.WideShapes Go.ChangeAt Go.RowKit
open PL Mem Srun Sst To OwnS AskP StpS Res Swhole Sout Irp RunF IntsP RowC AccP AcctP Read3 TreeP LawC LawI

def Pars (cs : List CI) : Prop := ∀ (i : Nat) (c : CI), cs[i]? = some c → -1 ≤ c.par ∧ c.par < i
theorem tds_pars {t : List Tr} (h : Whole t ∨ t = []) : Pars (tds t).calls := by
 intro i c hc
 rcases h with h | h
 ·have := (h.inv t.length (Nat.le_refl _)).fins i c (by rw [List.take_length]; exact hc)
  exact ⟨this.2.2.1, this.2.2.2⟩
 ·subst h
  simp [tds] at hc
theorem runR_or (p : Pg) (f arg fuel : Int) : Whole (runR p f arg fuel).1.trace ∨ (runR p f arg fuel).1.trace = [] := by
 cases h : (runR p f arg fuel).2 with
 | true => exact .inl (runR_whole h)
 | false => exact .inr (runR_none h)
theorem dep_set {cs : List CI} {j n : Nat} (hn : cs.length = n) (hj : j < n) (v : Int) : (depL cs j ++ List.replicate (n - j) 0).set j v = (depL cs j ++ [v]) ++ List.replicate (n - (j + 1)) 0 := by
 have hl := depL_len cs j (by omega)
 rw [List.set_append_right _ _ (by omega), hl, Nat.sub_self, show n - j = n - (j + 1) + 1 by omega, List.replicate_succ, List.set_cons_zero, List.append_assoc]
 rfl
set_option maxRecDepth 100000 in
set_option maxHeartbeats 8000000 in
theorem depths_any {g n : Nat} {k v s : Int} {tv cv ov : Value} {cs : List CI} {os : List Int} {cur : Int} {W : World} (h : Acc g k v s tv cv ov cs os cur W) (hp : Pars cs) (hn : cs.length = n) (hl : n ≤ 100000) :
  Calls Try.prog 66 #[.pointer (some ⟨g, 0, none⟩)] W fun e W' => ∃ A c, e = .returned (.slice A n c) ∧ OwnI W' W.heap.size (.slice A n c) (depL cs n) ∧ Below W.heap.size W W' := by
 obtain ⟨i0, hi, hz0, hz1, hz2⟩ := info_parts info3
 have hmk := fun W => run_make_rowN (P := Try.prog) 38 3 i0 _ Try.underlying38 hi hz0 .i64 .i64 n n (Nat.le_refl _) (by rw [hz2]; omega) (by omega) W
 rw [hz1] at hmk
 obtain ⟨Ac, cc, rfl⟩ := own_slice h.calls
 have hoc : OwnC W g (.slice Ac n cc) cs := by have := h.calls; rwa [hn] at this
 have z4 : W.cell? ⟨g, 4, none⟩ = some (.slice Ac n cc) := by rw [← hn]; exact h.blk.cells 4
 have hgl := h.lt
 have HOC := Lib.hid hoc
 have HP := Lib.hid hp
 have HN := Lib.hid hn
 have HF := Lib.hid (show (depL cs n).length = n from depL_len cs n (by omega))
 clear h hoc hp hi hz0 hz2 hn
 go_enter Try.func66, Try.ntmps66
 go_wp2_with fail
 go_loopw [17] (fun i wr => ∃ j : Nat, j ≤ n ∧ i = .int .i64 j ∧ wr.ownsRow W.heap.size 3 1 (.slice (some ⟨W.heap.size, 0, none⟩) n n) n (cellsI (depL cs j ++ List.replicate (n - j) 0)) ∧ Below W.heap.size W wr) (fun i _ => n - (intOf i).toNat)
 case atStart =>
  refine ⟨0, Nat.zero_le _, rfl, ?_, (Below.refl _ _).alloc (Nat.le_refl _) _⟩
  have := World.ownsRow_lit (base := W.heap.size) (e := 3) (size := 1) W (madeCells #[Value.int .i64 0] (n * 1)) n (Nat.le_refl _) (by unfold maxLen; omega) (size_madeCells _ _)
  rw [Nat.mul_one, toList_madeCells_one] at this
  simpa [depL, cellsI, List.map_replicate] using this
 case round =>
  obtain ⟨j, hj, rfl, hown, hb⟩ := hrel
  clear z4 hmk
  have hsz := hb.size
  by_cases hlt : j < n
  ·obtain ⟨⟨c0, c1, c2, c3, c4⟩, hs⟩ : ∃ s, cs[j]? = some s := ⟨_, List.getElem?_eq_getElem (by rw [HN.out]; exact hlt)⟩
   obtain ⟨hp1, hp2⟩ := HP.out j _ hs
   have hnx := depL_next hs
   obtain ⟨ad, rfl, hab, q0, q1, q2, q3, q4⟩ := (OwnC.rd (own_below HOC.out hb (Nat.le_refl _)) HN.out) j _ hs
   have hW := (World.ownsRow.lt hown W.heap.size rfl).2
   have HB := Lib.hid hb
   have O := Lib.hid hown
   have HNX := Lib.hid hnx
   dsimp only at q0 q1 q2 q3 q4 hp1 hp2
   clear hs hb hown hnx
   go_upto_region 5 with fail
   change (fun V => Code.wp _ _ _ _ V) _
   refine gen_world (X := fun V => Blk V wr.heap.size 87 #[.int .i64 c0, .int .i64 c1, .bool c2, .int .i64 c3, .int .i64 c4] ∧ V.ownsRow W.heap.size 3 1 (.slice (some ⟨W.heap.size, 0, none⟩) n n) n (cellsI (depL cs j ++ List.replicate (n - j) 0)) ∧ Below W.heap.size W V) ⟨heap1_0 wr _, own_below (B' := wr.heap.size) O.out ((Below.refl _ _).alloc (Nat.le_refl _) _) (Nat.le_refl _), HB.out.alloc hsz _⟩ ?_
   clear HB O q0 q1 q2 q3 q4
   generalize wr.heap.size = bx at *
   rintro X ⟨eX, oX, bX⟩
   obtain ⟨u0, hu0⟩ := own_cellI oX hlt
   have fz := oX.frozenAt
   have EX := Lib.hid eX
   have OX := Lib.hid oX
   have BX := Lib.hid bX
   clear eX oX bX
   go_upto_region 6 with fail
   change (fun V => Code.wp _ _ _ _ V) _
   refine gen_world (X := fun V => Blk V bx 87 #[.int .i64 c0, .int .i64 c1, .bool c2, .int .i64 c3, .int .i64 c4] ∧ V.ownsRow W.heap.size 3 1 (.slice (some ⟨W.heap.size, 0, none⟩) n n) n (cellsI ((depL cs j ++ [1]) ++ List.replicate (n - (j + 1)) 0)) ∧ Below W.heap.size W V) ⟨EX.out.far _ _ (by show bx ≠ W.heap.size; omega), (by have := own_setI OX.out j 1; rwa [dep_set HN.out hlt] at this), BX.out.setCell (p := ⟨W.heap.size, j, none⟩) (Nat.le_refl _) _⟩ ?_
   clear EX OX BX hu0 fz
   rintro Y ⟨eY, oY, bY⟩
   have y1 : Y.cell? ⟨bx, 1, none⟩ = some (.int .i64 c1) := eY.cells 1
   have OY := Lib.hid oY
   have BY := Lib.hid bY
   by_cases hc : c1 = -1
   ·subst hc
    have HX := Lib.hid (show depL cs (j + 1) = depL cs j ++ [1] from HNX.out.trans (by rw [if_pos (by show (-1 : Int) < 0; decide)]))
    clear eY oY bY HNX
    go_wp2_with fail
    go_roundw
    case rel => exact ⟨j + 1, by omega, by go_num, by rw [HX.out]; exact OY.out, BY.out⟩
    case measure => simp [intOf]; omega
   ·obtain ⟨np, rfl⟩ : ∃ np : Nat, c1 = np := ⟨c1.toNat, by omega⟩
    have hlj : (depL cs j).length = j := depL_len cs j (by rw [HN.out]; omega)
    obtain ⟨dp, hdp⟩ : ∃ dp, (depL cs j)[np]? = some dp := ⟨_, List.getElem?_eq_getElem (by omega)⟩
    have hdb := depL_bound cs j dp (List.mem_of_getElem? hdp)
    have HX := Lib.hid (show depL cs (j + 1) = depL cs j ++ [1 + dp] from HNX.out.trans (by rw [if_neg (by show ¬ ((np : Int) < 0); omega)]; show _ = _; rw [Int.toNat_natCast, List.getD_eq_getElem?_getD, hdp, Int.add_comm]; rfl))
    have hcell : ∀ (i : Nat) (z : Int), ((depL cs j ++ [1]) ++ List.replicate (n - (j + 1)) (0 : Int))[i]? = some z → i < n → Y.cell? ⟨W.heap.size, i, none⟩ = some (.int .i64 z) := fun i z hz hi => (oY.cellAt i (by omega)).trans (cellsI_at _ _ _ hz)
    have yj := hcell j 1 (by rw [List.append_assoc, List.getElem?_append_right (by omega), hlj, Nat.sub_self]; rfl) hlt
    have yp := hcell np dp (by rw [List.append_assoc, List.getElem?_append_left (by omega)]; exact hdp) (by omega)
    have fz := oY.frozenAt
    have hcb : ((np : Int) != -1) = true := by simp
    have hnp : np < n := by omega
    clear eY oY bY HNX hcell hdp hlj hc
    go_wp2_with fail
    go_region
    all_goals
     go_wp2_with fail
     go_roundw
     case rel =>
      refine ⟨j + 1, by omega, by go_num, ?_, ?_⟩
      ·rw [HX.out]
       have := own_setI (own_below (B' := Y.heap.size) OY.out ((Below.refl _ _).drew) (Nat.le_refl _)) j (1 + dp)
       rwa [← dep_set HN.out hlt 1, List.set_set, dep_set HN.out hlt] at this
      ·exact (BY.out.drew).setCell (p := ⟨W.heap.size, j, none⟩) (Nat.le_refl _) _
     case measure => simp [intOf]; omega
  ·obtain rfl : j = n := by omega
   have O := Lib.hid hown
   have HB := Lib.hid hb
   clear hown hb
   go_wp2_with fail
   go_ret
   refine ⟨_, _, rfl, ?_, HB.out⟩
   unfold OwnI
   rw [HF.out]
   have := O.out
   rwa [Nat.sub_self, List.replicate_zero, List.append_nil] at this
end Go.Proofs.Ytgcjlkdahlfjlaa.DepQ
-- squeezed
