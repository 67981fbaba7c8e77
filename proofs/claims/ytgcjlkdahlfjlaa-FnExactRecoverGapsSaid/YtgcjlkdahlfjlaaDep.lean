/- DepthsOf: spec and impl. (Written by wip/tools/gendep.py.) -/
import Derived.Test.YtgcjlkdahlfjlaaTree
import Derived.Test.YtgcjlkdahlfjlaaM23
import Derived.Test.YtgcjlkdahlfjlaaM2
import Derived.Deep.AppendLies
import Derived.BigRegion
set_option linter.unusedVariables false
set_option linter.unusedSimpArgs false
namespace Go.Proofs.Ytgcjlkdahlfjlaa.DepQ
open Go.ChangeShapes Go.WideShapes Go.ChangeAt Go.RowKit
open PL Mem Srun Sst To OwnS AskP StpS Res Swhole Sout Irp RunF IntsP RowC AccP AcctP Read3 TreeP LawC LawI

def Pars (cs : List CI) : Prop := ∀ (i : Nat) (c : CI), cs[i]? = some c → -1 ≤ c.par ∧ c.par < i
theorem tds_pars {t : List Tr} (h : Whole t ∨ t = []) : Pars (tds t).calls := by
 intro i c hc
 rcases h with h | h
 ·have := (h.inv t.length (Nat.le_refl _)).fins i c (by rw [List.take_length]; exact hc)
  exact ⟨this.2.2.1, this.2.2.2⟩
 ·subst h
  simp [tds] at hc
theorem runR_or (p : Pg) (f arg fuel : Int) : Whole (runR p f arg fuel).1.trace ∨ (runR p f arg fuel).1.trace = [] := by
 cases h : (runR p f arg fuel).2 with
 | true => exact .inl (runR_whole h)
 | false => exact .inr (runR_none h)
theorem tree_pars (p : Pg) (f arg fuel : Int) : Pars (treeR p f arg fuel).1 := tds_pars (runR_or p f arg fuel)
def depR (p : Pg) (f arg fuel : Int) : List Int × Bool := (depL (treeR p f arg fuel).1 (treeR p f arg fuel).1.length, (treeR p f arg fuel).2)
theorem dep_set {cs : List CI} {j n : Nat} (hn : cs.length = n) (hj : j < n) (v : Int) : (depL cs j ++ List.replicate (n - j) 0).set j v = (depL cs j ++ [v]) ++ List.replicate (n - (j + 1)) 0 := by
 have hl := depL_len cs j (by omega)
 rw [List.set_append_right _ _ (by omega), hl, Nat.sub_self, show n - j = n - (j + 1) + 1 by omega, List.replicate_succ, List.set_cons_zero, List.append_assoc]
 rfl
set_option maxRecDepth 100000 in
set_option maxHeartbeats 8000000 in
theorem depths_any {g n : Nat} {k v s : Int} {tv cv ov : Value} {cs : List CI} {os : List Int} {cur : Int} {W : World} (h : Acc g k v s tv cv ov cs os cur W) (hp : Pars cs) (hn : cs.length = n) (hl : n ≤ 100000) :
  Calls Try.prog 66 #[.pointer (some ⟨g, 0, none⟩)] W fun e W' => ∃ A c, e = .returned (.slice A n c) ∧ OwnI W' W.heap.size (.slice A n c) (depL cs n) ∧ Below W.heap.size W W' := by
 obtain ⟨i0, hi, hz0, hz1, hz2⟩ := info_parts info3
 have hmk := fun W => run_make_rowN (P := Try.prog) 38 3 i0 _ Try.underlying38 hi hz0 .i64 .i64 n n (Nat.le_refl _) (by rw [hz2]; omega) (by omega) W
 rw [hz1] at hmk
 obtain ⟨Ac, cc, rfl⟩ := own_slice h.calls
 have hoc : OwnC W g (.slice Ac n cc) cs := by have := h.calls; rwa [hn] at this
 have z4 : W.cell? ⟨g, 4, none⟩ = some (.slice Ac n cc) := by rw [← hn]; exact h.blk.cells 4
 have hgl := h.lt
 have HOC := Lib.hid hoc
 have HP := Lib.hid hp
 have HN := Lib.hid hn
 have HF := Lib.hid (show (depL cs n).length = n from depL_len cs n (by omega))
 clear h hoc hp hi hz0 hz2 hn
 go_enter Try.func66, Try.ntmps66
 go_wp2_with fail
 go_loopw [17] (fun i wr => ∃ j : Nat, j ≤ n ∧ i = .int .i64 j ∧ wr.ownsRow W.heap.size 3 1 (.slice (some ⟨W.heap.size, 0, none⟩) n n) n (cellsI (depL cs j ++ List.replicate (n - j) 0)) ∧ Below W.heap.size W wr) (fun i _ => n - (intOf i).toNat)
 case atStart =>
  refine ⟨0, Nat.zero_le _, rfl, ?_, (Below.refl _ _).alloc (Nat.le_refl _) _⟩
  have := World.ownsRow_lit (base := W.heap.size) (e := 3) (size := 1) W (madeCells #[Value.int .i64 0] (n * 1)) n (Nat.le_refl _) (by unfold maxLen; omega) (size_madeCells _ _)
  rw [Nat.mul_one, toList_madeCells_one] at this
  simpa [depL, cellsI, List.map_replicate] using this
 case round =>
  obtain ⟨j, hj, rfl, hown, hb⟩ := hrel
  clear z4 hmk
  have hsz := hb.size
  by_cases hlt : j < n
  ·obtain ⟨⟨c0, c1, c2, c3, c4⟩, hs⟩ : ∃ s, cs[j]? = some s := ⟨_, List.getElem?_eq_getElem (by rw [HN.out]; exact hlt)⟩
   obtain ⟨hp1, hp2⟩ := HP.out j _ hs
   have hnx := depL_next hs
   obtain ⟨ad, rfl, hab, q0, q1, q2, q3, q4⟩ := (OwnC.rd (own_below HOC.out hb (Nat.le_refl _)) HN.out) j _ hs
   have hW := (World.ownsRow.lt hown W.heap.size rfl).2
   have HB := Lib.hid hb
   have O := Lib.hid hown
   have HNX := Lib.hid hnx
   dsimp only at q0 q1 q2 q3 q4 hp1 hp2
   clear hs hb hown hnx
   go_upto_region 5 with fail
   change (fun V => Code.wp _ _ _ _ V) _
   refine gen_world (X := fun V => Blk V wr.heap.size 87 #[.int .i64 c0, .int .i64 c1, .bool c2, .int .i64 c3, .int .i64 c4] ∧ V.ownsRow W.heap.size 3 1 (.slice (some ⟨W.heap.size, 0, none⟩) n n) n (cellsI (depL cs j ++ List.replicate (n - j) 0)) ∧ Below W.heap.size W V) ⟨heap1_0 wr _, own_below (B' := wr.heap.size) O.out ((Below.refl _ _).alloc (Nat.le_refl _) _) (Nat.le_refl _), HB.out.alloc hsz _⟩ ?_
   clear HB O q0 q1 q2 q3 q4
   generalize wr.heap.size = bx at *
   rintro X ⟨eX, oX, bX⟩
   obtain ⟨u0, hu0⟩ := own_cellI oX hlt
   have fz := oX.frozenAt
   have EX := Lib.hid eX
   have OX := Lib.hid oX
   have BX := Lib.hid bX
   clear eX oX bX
   go_upto_region 6 with fail
   change (fun V => Code.wp _ _ _ _ V) _
   refine gen_world (X := fun V => Blk V bx 87 #[.int .i64 c0, .int .i64 c1, .bool c2, .int .i64 c3, .int .i64 c4] ∧ V.ownsRow W.heap.size 3 1 (.slice (some ⟨W.heap.size, 0, none⟩) n n) n (cellsI ((depL cs j ++ [1]) ++ List.replicate (n - (j + 1)) 0)) ∧ Below W.heap.size W V) ⟨EX.out.far _ _ (by show bx ≠ W.heap.size; omega), (by have := own_setI OX.out j 1; rwa [dep_set HN.out hlt] at this), BX.out.setCell (p := ⟨W.heap.size, j, none⟩) (Nat.le_refl _) _⟩ ?_
   clear EX OX BX hu0 fz
   rintro Y ⟨eY, oY, bY⟩
   have y1 : Y.cell? ⟨bx, 1, none⟩ = some (.int .i64 c1) := eY.cells 1
   have OY := Lib.hid oY
   have BY := Lib.hid bY
   by_cases hc : c1 = -1
   ·subst hc
    have HX := Lib.hid (show depL cs (j + 1) = depL cs j ++ [1] from HNX.out.trans (by rw [if_pos (by show (-1 : Int) < 0; decide)]))
    clear eY oY bY HNX
    go_wp2_with fail
    go_roundw
    case rel => exact ⟨j + 1, by omega, by go_num, by rw [HX.out]; exact OY.out, BY.out⟩
    case measure => simp [intOf]; omega
   ·obtain ⟨np, rfl⟩ : ∃ np : Nat, c1 = np := ⟨c1.toNat, by omega⟩
    have hlj : (depL cs j).length = j := depL_len cs j (by rw [HN.out]; omega)
    obtain ⟨dp, hdp⟩ : ∃ dp, (depL cs j)[np]? = some dp := ⟨_, List.getElem?_eq_getElem (by omega)⟩
    have hdb := depL_bound cs j dp (List.mem_of_getElem? hdp)
    have HX := Lib.hid (show depL cs (j + 1) = depL cs j ++ [1 + dp] from HNX.out.trans (by rw [if_neg (by show ¬ ((np : Int) < 0); omega)]; show _ = _; rw [Int.toNat_natCast, List.getD_eq_getElem?_getD, hdp, Int.add_comm]; rfl))
    have hcell : ∀ (i : Nat) (z : Int), ((depL cs j ++ [1]) ++ List.replicate (n - (j + 1)) (0 : Int))[i]? = some z → i < n → Y.cell? ⟨W.heap.size, i, none⟩ = some (.int .i64 z) := fun i z hz hi => (oY.cellAt i (by omega)).trans (cellsI_at _ _ _ hz)
    have yj := hcell j 1 (by rw [List.append_assoc, List.getElem?_append_right (by omega), hlj, Nat.sub_self]; rfl) hlt
    have yp := hcell np dp (by rw [List.append_assoc, List.getElem?_append_left (by omega)]; exact hdp) (by omega)
    have fz := oY.frozenAt
    have hcb : ((np : Int) != -1) = true := by simp
    have hnp : np < n := by omega
    clear eY oY bY HNX hcell hdp hlj hc
    go_wp2_with fail
    go_region
    all_goals
     go_wp2_with fail
     go_roundw
     case rel =>
      refine ⟨j + 1, by omega, by go_num, ?_, ?_⟩
      ·rw [HX.out]
       have := own_setI (own_below (B' := Y.heap.size) OY.out ((Below.refl _ _).drew) (Nat.le_refl _)) j (1 + dp)
       rwa [← dep_set HN.out hlt 1, List.set_set, dep_set HN.out hlt] at this
      ·exact (BY.out.drew).setCell (p := ⟨W.heap.size, j, none⟩) (Nat.le_refl _) _
     case measure => simp [intOf]; omega
  ·obtain rfl : j = n := by omega
   have O := Lib.hid hown
   have HB := Lib.hid hb
   clear hown hb
   go_wp2_with fail
   go_ret
   refine ⟨_, _, rfl, ?_, HB.out⟩
   unfold OwnI
   rw [HF.out]
   have := O.out
   rwa [Nat.sub_self, List.replicate_zero, List.append_nil] at this
set_option maxRecDepth 100000 in
set_option maxHeartbeats 8000000 in
theorem depS_any (lo n c : Nat) (A : Option Addr) (p : Pg) (f arg fuel : Int) (hn : n ≤ 9223372036854775807) (hl : p.length = n) (hsm : Small p 9223372036854775807) (w : World) (ho : OwnP w lo (.slice A n c) p) :
  Calls Try.prog 73 #[.agg #[.slice A n c], .int .i64 f, .int .i64 arg, .int .i64 fuel] w (IntsR (depR p f arg fuel) w) := by
 obtain ⟨i0, hi, hz0, hz1, hz2⟩ := info_parts info3
 have hq := Lib.hid (fun W (h : Below w.heap.size w W) => treeS_any lo n c A p f arg fuel hn hl hsm W (ho.below h))
 have hal : ∀ o1 o2 : Obj, Below w.heap.size w ((w.alloc o1).alloc o2) := fun o1 o2 => ((Below.refl _ _).alloc (Nat.le_refl _) _).alloc (by simp) _
 have HALs := Lib.hid (hal (.cells #[.slice A n c] 31) (.cells #[] 3))
 have HE := Lib.hid (show OwnI ((w.alloc (.cells #[.slice A n c] 31)).alloc (.cells #[] 3)) w.heap.size (.slice (some ⟨w.heap.size + 1, 0, none⟩) 0 0) [] from App.empty_own (heap2_1 w _ _) (by omega))
 have hlen := treeR_len p f arg fuel
 have hpar := tree_pars p f arg fuel
 have hr : depR p f arg fuel = (depL (treeR p f arg fuel).1 (treeR p f arg fuel).1.length, (treeR p f arg fuel).2) := rfl
 unfold CallsR at hq
 generalize treeR p f arg fuel = r at *
 obtain ⟨cs, b⟩ := r
 dsimp only at hq hlen hpar hr
 obtain ⟨N, hN⟩ : ∃ N, cs.length = N := ⟨_, rfl⟩
 rw [hN] at hq hlen hr
 have HN := Lib.hid hN
 have HR := Lib.hid hr
 have HPAR := Lib.hid hpar
 clear ho hsm hal hr hpar hN
 go_enter Try.func73, Try.ntmps73
 go_wp2_with fail
 refine (hq.out _ HALs.out).mono ?_
 rintro e w2 ⟨Ac, cc, rfl, oc, b2⟩
 have O1 := Lib.hid (own_below HE.out b2 (Nat.le_refl _))
 have OC1 := Lib.hid (own_mono (B' := w.heap.size) oc HALs.out.size)
 have B2 := Lib.hid (HALs.out.trans (b2.mono HALs.out.size))
 clear oc b2 hq HE
 go_wp2_with fail
 go_loopw [10, 13] (fun v i wr => ∃ (j : Nat) (A' : Option Addr) (c' : Nat), j ≤ N ∧ i = .int .i64 j ∧ v = .slice A' (depL cs j).length c' ∧ OwnI wr w.heap.size (.slice A' (depL cs j).length c') (depL cs j) ∧ OwnC wr w.heap.size (.slice Ac N cc) cs ∧ Below w.heap.size w wr) (fun _ i _ => N - (intOf i).toNat)
 case atStart => exact ⟨0, _, _, Nat.zero_le _, rfl, rfl, O1.out, (by have := OC1.out; unfold OwnC at this ⊢; rw [HN.out] at this ⊢; exact this), B2.out⟩
 case round =>
  obtain ⟨j, A', c', hj, rfl, rfl, hown, hoc, hb⟩ := hrel
  clear O1 OC1 B2
  have hlo : w.heap.size ≤ wr.heap.size := hb.size
  have hlj : (depL cs j).length = j := depL_len cs j (by rw [HN.out]; omega)
  by_cases hlt : j < N
  ·obtain ⟨⟨c0, c1, c2, c3, c4⟩, hs⟩ : ∃ s, cs[j]? = some s := ⟨_, List.getElem?_eq_getElem (by rw [HN.out]; exact hlt)⟩
   obtain ⟨hp1, hp2⟩ := HPAR.out j _ hs
   have hnx := depL_next hs
   obtain ⟨ad, rfl, hab, q0, q1, q2, q3, q4⟩ := (OwnC.rd hoc HN.out) j _ hs
   have hdb := depL_bound cs j
   have HB := Lib.hid hb
   have O := Lib.hid hown
   have HOC := Lib.hid hoc
   have HNX := Lib.hid hnx
   dsimp only at q0 q1 q2 q3 q4 hp1 hp2
   clear hs hb hown hoc hnx q0 q2 q3 q4
   generalize hq : depL cs j = q at *
   have hle : q.length ≤ j := Nat.le_of_eq hlj
   have HLJ := Lib.hid hlj
   clear hlj
   by_cases hc : c1 < 0
   ·obtain rfl : c1 = -1 := by omega
    have HX := Lib.hid (show depL cs (j + 1) = q ++ [1] from HNX.out.trans (by rw [if_pos hc]))
    have HDB := Lib.hid hdb
    clear HNX hq hdb
    go_wp2_with (at_builtin; refine wpList_append_lies _ rfl _ _ 38 rfl w.heap.size 3 i0 _ 1 8 Try.underlying38 hi hz0 hz1 hz2 rfl (by decide) _ _ _ rfl (World.ownsRow.alloc O.out _) ⟨wr.heap.size, 0, none⟩ 1 1 [.int .i64 1] rfl rfl ?cn_1 ?co_1 (by decide) ?c63_1 ?cb_1 ?cl_1 (wr.heap.size + 1) ?cH_1 ?next_1)
    (try (case cn_1 => exact World.news_of_block (cs := #[.int .i64 1]) (t := 3) (fr := (0, 0)) (heap_alloc_new _ _)))
    case co_1 => first | (intro u hu; simp at hu; rcases hu with rfl; rfl) | simp [Value.oneCell']
    case c63_1 => first | (unfold maxLen; omega) | omega
    case cb_1 => omega
    case cl_1 => first | (simp; omega) | omega
    (try (case cH_1 => simp))
    case next_1 =>
     intro g2 cap2 w2' hown2 hgrow2 hat2 hlt2
     have c2 : Chg (fun y => (Value.slice A' q.length c').ownBlock = some y) wr w2' := (Chg.alloc _ wr _).trans (Chg.of_grown hgrow2) (fun x _ hx => hx.symm)
     have B2' := Lib.hid (HB.out.trans (c2.below hlo (fun x hx e => by have := (World.ownsRow.lt O.out x e).1; omega)))
     have OC2 := Lib.hid (own_chg HOC.out c2 (fun x hx e => apart HOC.out O.out (by decide) x hx e))
     have O2 := Lib.hid hown2
     clear hown2 hgrow2 hat2 c2
     go_wp2_with fail
     go_roundw
     case rel =>
      refine ⟨j + 1, some ⟨g2, 0, none⟩, cap2, by omega, by go_num, ?_, ?_, OC2.out, B2'.out⟩
      ·rw [HX.out, List.length_append, List.length_singleton]
      ·rw [HX.out]
       unfold OwnI
       rw [List.length_append, List.length_singleton, cellsI_append]
       exact O2.out
     case measure => simp [intOf]; omega
   ·obtain ⟨np, rfl⟩ : ∃ np : Nat, c1 = np := ⟨c1.toNat, by omega⟩
    obtain ⟨dp, hdp⟩ : ∃ dp, q[np]? = some dp := ⟨_, List.getElem?_eq_getElem (by rw [HLJ.out]; omega)⟩
    have hdb' := hdb dp (List.mem_of_getElem? hdp)
    obtain ⟨ao, rfl, hao, hd⟩ := (OwnI.rd O.out rfl) np dp hdp
    have HX := Lib.hid (show depL cs (j + 1) = q ++ [dp + 1] from HNX.out.trans (by rw [if_neg hc]; show _ = _; rw [Int.toNat_natCast, List.getD_eq_getElem?_getD, hdp]; rfl))
    have hcb : decide ((np : Int) < 0) = false := by simp
    have hnp : np < q.length := by rw [HLJ.out]; omega
    clear HNX hq hdb hdp hc
    go_wp2_with (at_builtin; refine wpList_append_lies _ rfl _ _ 38 rfl w.heap.size 3 i0 _ 1 8 Try.underlying38 hi hz0 hz1 hz2 rfl (by decide) _ _ _ rfl (World.ownsRow.alloc O.out _) ⟨wr.heap.size, 0, none⟩ 1 1 [.int .i64 (dp + 1)] rfl rfl ?cn_2 ?co_2 (by decide) ?c63_2 ?cb_2 ?cl_2 (wr.heap.size + 1) ?cH_2 ?next_2)
    (try (case cn_2 => exact World.news_of_block (cs := #[.int .i64 (dp + 1)]) (t := 3) (fr := (0, 0)) (heap_alloc_new _ _)))
    case co_2 => first | (intro u hu; simp at hu; rcases hu with rfl; rfl) | simp [Value.oneCell']
    case c63_2 => first | (unfold maxLen; omega) | omega
    case cb_2 => omega
    case cl_2 => first | (simp; omega) | omega
    (try (case cH_2 => simp))
    case next_2 =>
     intro g2 cap2 w2' hown2 hgrow2 hat2 hlt2
     have c2 : Chg (fun y => (Value.slice (some ao) q.length c').ownBlock = some y) wr w2' := (Chg.alloc _ wr _).trans (Chg.of_grown hgrow2) (fun x _ hx => hx.symm)
     have B2' := Lib.hid (HB.out.trans (c2.below hlo (fun x hx e => by have := (World.ownsRow.lt O.out x e).1; omega)))
     have OC2 := Lib.hid (own_chg HOC.out c2 (fun x hx e => apart HOC.out O.out (by decide) x hx e))
     have O2 := Lib.hid hown2
     clear hown2 hgrow2 hat2 c2
     go_wp2_with fail
     go_roundw
     case rel =>
      refine ⟨j + 1, some ⟨g2, 0, none⟩, cap2, by omega, by go_num, ?_, ?_, OC2.out, B2'.out⟩
      ·rw [HX.out, List.length_append, List.length_singleton]
      ·rw [HX.out]
       unfold OwnI
       rw [List.length_append, List.length_singleton, cellsI_append]
       exact O2.out
     case measure => simp [intOf]; omega
  ·obtain rfl : j = N := by omega
   have HB := Lib.hid hb
   have O := Lib.hid hown
   clear hb hown hoc
   go_wp2_with fail
   go_ret2
   exact ⟨A', c', by rw [HR.out] <;> rfl, by rw [HR.out]; exact O.out, HB.out⟩
end Go.Proofs.Ytgcjlkdahlfjlaa.DepQ
-- squeezed
