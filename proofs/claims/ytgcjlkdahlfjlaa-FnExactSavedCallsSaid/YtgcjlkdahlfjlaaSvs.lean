/- spec's SavedCalls. (Written by wip/tools/genisv.py.) -/
import Derived.Test.YtgcjlkdahlfjlaaSvp
import Derived.Test.YtgcjlkdahlfjlaaTree
import Derived.Test.YtgcjlkdahlfjlaaM21
import Derived.Test.YtgcjlkdahlfjlaaPo
namespace Go.Proofs.Ytgcjlkdahlfjlaa.Sv
set_option linter.unusedVariables false
set_option linter.unusedSimpArgs false
open Go.ChangeShapes Go.WideShapes Go.ChangeAt Go.RowKit
open PL Mem Srun Sst Ssim Smk To OwnS AskP RunF Res Swhole Sout IntsP RowC RowA AccP AcctP Read3 TreeP LawI Pw
set_option maxRecDepth 100000 in
set_option maxHeartbeats 4000000 in
theorem l5Saved_any (B N c2 : Nat) (A2 : Option Addr) (t : List Tr) (hw : Whole t) (hp : (pds t).2 = true) (hN : t.length = N) (hlen : N ≤ 100000) (w : World) (hr : Rd3 w B A2 t) (hB : B ≤ w.heap.size) :
  Calls Try.prog 67 #[.slice A2 N c2] w fun e w' => ∃ A' c', e = .returned (.slice A' (savL t N).length c') ∧ OwnI w' w.heap.size (.slice A' (savL t N).length c') (savL t N) ∧ Below w.heap.size w w' := by
 obtain ⟨i0, hi, hz0, hz1, hz2⟩ := info_parts info3
 have HT := Lib.hid (fun W (b : Below w.heap.size w W) => l3Read_any B N c2 A2 t hw hN hlen W (hr.below (b.mono hB)) (Nat.le_trans hB b.size))
 have HR := Lib.hid (fun V (b : Below w.heap.size w V) => hr.below (b.mono hB))
 have HN := Lib.hid hN
 have HPD := Lib.hid hp
 have HLE := Lib.hid (fun j => savL_len t j)
 obtain ⟨M, hM⟩ : ∃ M, (tds t).calls.length = M := ⟨_, rfl⟩
 have HM := Lib.hid hM
 have HOL := Lib.hid (show (tds t).owners.length = N from (tds_len t).1.trans hN)
 clear hw hp hr hN hM
 go_enter Try.func67, Try.ntmps67
 go_wp2_with fail
 refine (HT.out _ ((Below.refl _ _).alloc (Nat.le_refl _) _)).mono ?_
 rintro e w3 ⟨Ac, cc, Ao, co, rfl, oc, oo, b3⟩
 rw [HM.out] at oc
 rw [HOL.out] at oo
 rw [HM.out, HOL.out]
 have hs1 : (w.alloc (.cells #[] 3)).heap.size = w.heap.size + 1 := by simp
 have B3 := Lib.hid (((Below.refl w.heap.size w).alloc (Nat.le_refl _) (.cells #[] 3)).trans (b3.mono (by rw [hs1]; omega)))
 have O3 := Lib.hid (own_below (B' := (w.alloc (.cells #[] 3)).heap.size) (show OwnI (w.alloc (.cells #[] 3)) w.heap.size (.slice (some ⟨w.heap.size, 0, none⟩) 0 0) [] from App.empty_own (heap1_0 w _) (Nat.le_refl _)) b3 (Nat.le_refl _))
 have A3 := Lib.hid (show Apt (.slice (some ⟨w.heap.size, 0, none⟩) 0 0) (.slice Ao N co) from fun y hy hy' => by
  have h1 := (World.ownsRow.lt oo y hy').1
  simp only [Value.ownBlock, Option.some.injEq] at hy
  omega)
 have OC := Lib.hid (show w3.ownsRow w.heap.size 87 5 (.slice Ac M cc) M (cells5 (tds t).calls) from (by have := own_mono oc (B' := w.heap.size) (by rw [hs1]; omega); rwa [HM.out] at this))
 have OO := Lib.hid (show w3.ownsRow w.heap.size 3 1 (.slice Ao N co) N (cellsI (tds t).owners) from (by have := own_mono oo (B' := w.heap.size) (by rw [hs1]; omega); rwa [HOL.out] at this))
 clear b3 oc oo HT
 go_upto_region 2 with fail
 change (fun V => Code.wp _ _ _ _ V) _
 refine gen_world (X := fun V => Blk V w3.heap.size 106 #[.slice Ac M cc, .slice Ao N co] ∧ V.ownsRow w.heap.size 87 5 (.slice Ac M cc) M (cells5 (tds t).calls) ∧ V.ownsRow w.heap.size 3 1 (.slice Ao N co) N (cellsI (tds t).owners) ∧ OwnI V w.heap.size (.slice (some ⟨w.heap.size, 0, none⟩) 0 0) [] ∧ Below w.heap.size w V) ⟨heap1_0 w3 _, World.ownsRow.alloc OC.out _, World.ownsRow.alloc OO.out _, World.ownsRow.alloc O3.out _, B3.out.alloc B3.out.size _⟩ ?_
 clear OC OO O3 B3
 generalize w3.heap.size = b
 rintro V ⟨tV, cV, oV, uV, bV⟩
 have TV := Lib.hid tV
 have CV := Lib.hid cV
 have OV := Lib.hid oV
 have UV := Lib.hid uV
 have BV := Lib.hid bV
 clear tV cV oV uV bV
 go_wp2_with fail
 go_loopw [3, 5] (fun v i wr => ∃ (j : Nat) (A' : Option Addr) (c' : Nat), j ≤ N ∧ i = .int .i64 j ∧ v = .slice A' (savL t j).length c' ∧ OwnI wr w.heap.size (.slice A' (savL t j).length c') (savL t j) ∧ Apt (.slice A' (savL t j).length c') (.slice Ao N co) ∧ Blk wr b 106 #[.slice Ac M cc, .slice Ao N co] ∧ wr.ownsRow w.heap.size 87 5 (.slice Ac M cc) M (cells5 (tds t).calls) ∧ wr.ownsRow w.heap.size 3 1 (.slice Ao N co) N (cellsI (tds t).owners) ∧ Below w.heap.size w wr) (fun _ i _ => N - (intOf i).toNat)
 case atStart => exact ⟨0, _, _, Nat.zero_le _, rfl, rfl, UV.out, A3.out, TV.out, CV.out, OV.out, BV.out⟩
 case round =>
  obtain ⟨j, A', c', hj, rfl, rfl, hown, hap, hT, hC, hO, hb⟩ := hrel
  clear UV A3 TV CV OV BV
  have hlo : w.heap.size ≤ wr.heap.size := hb.size
  by_cases hlt : j < N
  ·obtain ⟨⟨e0, e1, e2⟩, hs⟩ : ∃ s, t[j]? = some s := ⟨_, List.getElem?_eq_getElem (by rw [HN.out]; exact hlt)⟩
   obtain ⟨ad, rfl, hab, h0', h1', h2'⟩ := (HR.out wr hb) j _ hs
   have hl := HLE.out j
   have HB := Lib.hid hb
   have TV := Lib.hid hT
   have CV := Lib.hid hC
   have OV := Lib.hid hO
   have AP := Lib.hid hap
   have O := Lib.hid hown
   have HS := Lib.hid hs
   dsimp only at h0' h1' h2'
   clear hs hb hown hap hT hC hO
   by_cases k6 : e0 = 6
   ·subst k6
    obtain ⟨a, x, hoa, hx⟩ := rec_own HPD.out HS.out rfl
    have hal : a < M := by rw [← HM.out]; exact (List.getElem?_eq_some_iff.1 hx).1
    have HX := Lib.hid hx
    have HXX := Lib.hid (savL_yes HS.out rfl hoa hx)
    obtain ⟨bc, hbc⟩ : ∃ bc, Ac = some ⟨bc, 0, none⟩ := by
     rcases own_form CV.out with ⟨h0, _⟩ | ⟨_, bc, cap, hv, _⟩
     ·omega
     ·simp only [Value.slice.injEq] at hv
      exact ⟨bc, hv.1⟩
    subst hbc
    obtain ⟨bo, hbo⟩ : ∃ bo, Ao = some ⟨bo, 0, none⟩ := by
     rcases own_form OV.out with ⟨h0, _⟩ | ⟨_, bo, cap, hv, _⟩
     ·omega
     ·simp only [Value.slice.injEq] at hv
      exact ⟨bo, hv.1⟩
    subst hbo
    have HOA := Lib.hid (fun (V : World) (h : V.ownsRow w.heap.size 3 1 (.slice (some ⟨bo, 0, none⟩) N co) N (cellsI (tds t).owners)) => (show V.cell? ⟨bo, j, none⟩ = some (.int .i64 a) from (h.cellAt j (by omega)).trans (cellsI_at _ _ _ hoa)))
    clear hoa hx
    generalize savL t j = q at *
    go_wp2_with fail
    have S0 : (fun V : World => V.cell? ⟨b, 0, none⟩ = some (.slice (some ⟨bc, 0, none⟩) M cc) ∧ V.cell? ⟨b, 1, none⟩ = some (.slice (some ⟨bo, 0, none⟩) N co) ∧ V.cell? ⟨bo, j, none⟩ = some (.int .i64 a) ∧ V.cell? ⟨bc, a * 5 + 1, none⟩ = some (.int .i64 x.par)) wr.drew := ⟨TV.out.cells 0, TV.out.cells 1, HOA.out _ OV.out, (own_cell5 CV.out HX.out).2.1⟩
    refine Last2.region_last [13] (fun V : World => V.cell? ⟨b, 0, none⟩ = some (.slice (some ⟨bc, 0, none⟩) M cc) ∧ V.cell? ⟨b, 1, none⟩ = some (.slice (some ⟨bo, 0, none⟩) N co) ∧ V.cell? ⟨bo, j, none⟩ = some (.int .i64 a) ∧ V.cell? ⟨bc, a * 5 + 1, none⟩ = some (.int .i64 x.par)) (by kernel_rfl) ?_
    refine Last2.tk 0 21 (.slice A' q.length c') S0 ?_
    simp only [Act.put, Last2.s0, Last2.s1, Last2.s2]
    refine Last2.tk 1 22 (.pointer (some ⟨b, 0, none⟩)) S0 ?_
    simp only [Act.put, Last2.s0, Last2.s1, Last2.s2]
    refine Last2.tk 2 23 (.slice (some ⟨bc, 0, none⟩) M cc) S0 ?_
    simp only [Act.put, Last2.s0, Last2.s1, Last2.s2]
    refine Last2.tk 3 24 (.pointer (some ⟨b, 1, none⟩)) S0 ?_
    simp only [Act.put, Last2.s0, Last2.s1, Last2.s2]
    refine Last2.tk 4 25 (.slice (some ⟨bo, 0, none⟩) N co) S0 ?_
    simp only [Act.put, Last2.s0, Last2.s1, Last2.s2]
    refine Last2.tk 5 26 (.int .i64 j) S0 ?_
    simp only [Act.put, Last2.s0, Last2.s1, Last2.s2]
    refine Last2.tk 6 27 (.pointer (some ⟨bo, j, none⟩)) S0 ?_
    simp only [Act.put, Last2.s0, Last2.s1, Last2.s2]
    refine Last2.tk 7 28 (.int .i64 a) S0 ?_
    simp only [Act.put, Last2.s0, Last2.s1, Last2.s2]
    refine Last2.tk 8 29 (.pointer (some ⟨bc, a * 5, none⟩)) S0 ?_
    simp only [Act.put, Last2.s0, Last2.s1, Last2.s2]
    refine Last2.tk 9 30 (.pointer (some ⟨bc, a * 5 + 1, none⟩)) S0 ?_
    simp only [Act.put, Last2.s0, Last2.s1, Last2.s2]
    refine Last2.tk 10 31 (.int .i64 x.par) S0 ?_
    simp only [Act.put, Last2.s0, Last2.s1, Last2.s2]
    refine Last2.last_one (i := 11) (o := { dst := some 32, op := .buildSlice 38 1 #[(0, .tmp 31)], type := _, pos := _, after := _, guard := none }) (by kernel_rfl) rfl rfl (fun K hK => ?_)
    go_simp
    have TA := Lib.hid (TV.out.alloc (.cells #[.int .i64 x.par] 3))
    have CA := Lib.hid (World.ownsRow.alloc CV.out (.cells #[.int .i64 x.par] 3))
    have OA := Lib.hid (World.ownsRow.alloc OV.out (.cells #[.int .i64 x.par] 3))
    have S1 : (fun V : World => V.cell? ⟨b, 0, none⟩ = some (.slice (some ⟨bc, 0, none⟩) M cc) ∧ V.cell? ⟨b, 1, none⟩ = some (.slice (some ⟨bo, 0, none⟩) N co) ∧ V.cell? ⟨bo, j, none⟩ = some (.int .i64 a) ∧ V.cell? ⟨bc, a * 5 + 1, none⟩ = some (.int .i64 x.par)) (wr.alloc (.cells #[.int .i64 x.par] 3)).drew := ⟨TA.out.cells 0, TA.out.cells 1, HOA.out _ OA.out, (own_cell5 CA.out HX.out).2.1⟩
    refine hK.out _ _ (fun _ => S1) ?_
    clear hK K S0 TA CA OA
    try simp only [Act.put, Last2.s0, Last2.s1, Last2.s2]
    have o0 := World.ownsRow.alloc O.out (.cells #[.int .i64 x.par] 3)
    have p0 := App.one_own (heap1_0 wr (.cells #[.int .i64 x.par] 3))
    refine Last2.last_one (i := 12) (o := { dst := some 33, op := .call { callee := .builtin .append, args := #[.tmp 21, .tmp 32], argTypes := #[38, 38] }, type := _, pos := _, after := _, guard := none }) (by kernel_rfl) rfl rfl (fun K hK => ?_)
    refine App.row_wp _ (.tmp 21) (.tmp 32) 38 rfl w.heap.size 0 3 i0 _ 1 8 Try.underlying38 hi hz0 hz1 hz2 rfl (by decide) _ _ _ rfl o0 _ 1 [.int .i64 x.par] rfl p0 (by intro u hu; simp at hu; rcases hu with rfl; rfl) (by unfold maxLen; omega) (by omega) (by show w.heap.size ≤ (wr.alloc _).heap.size; rw [World.size_alloc]; omega) ?_
    intro v1 w1 o1 g1 t1
    have ch : Chg (fun x => (Value.slice A' q.length c').ownBlock = some x) wr w1 := Chg.trans (b := (wr.alloc (.cells #[.int .i64 x.par] 3)).drew) (Chg.trans (Chg.alloc _ wr _) (Chg.drew (fun _ => False) _) (fun _ _ h => h.elim)) (Chg.of_grown g1) (fun x _ hx => hx.symm)
    have T1 := Lib.hid (TV.out.chg ch (fun e => blk_apart O.out TV.out (by decide) e))
    have C1 := Lib.hid (own_chg CV.out ch (fun x hx e => apart CV.out O.out (by decide) x hx e))
    have W1 := Lib.hid (own_chg OV.out ch (fun x hx e => AP.out x e hx))
    have S2 : (fun V : World => V.cell? ⟨b, 0, none⟩ = some (.slice (some ⟨bc, 0, none⟩) M cc) ∧ V.cell? ⟨b, 1, none⟩ = some (.slice (some ⟨bo, 0, none⟩) N co) ∧ V.cell? ⟨bo, j, none⟩ = some (.int .i64 a) ∧ V.cell? ⟨bc, a * 5 + 1, none⟩ = some (.int .i64 x.par)) w1 := ⟨T1.out.cells 0, T1.out.cells 1, HOA.out _ W1.out, (own_cell5 C1.out HX.out).2.1⟩
    refine hK.out _ _ (fun _ => S2) ?_
    clear hK K o0 p0 S1
    obtain ⟨A1, c1, rfl⟩ := own_slice o1
    have O1 := Lib.hid o1
    have B1 := Lib.hid (HB.out.trans (ch.below hlo (fun x hx e => by have := (World.ownsRow.lt O.out x e).1; omega)))
    have AP1 := Lib.hid (show Apt (.slice A1 (q.length + 1) c1) (.slice (some ⟨bo, 0, none⟩) N co) from (by
     intro y hy hy'
     rcases t1 with e | e
     ·exact AP.out y (e.symm.trans hy) hy'
     ·have e2 := hy.symm.trans e
      simp only [Option.some.injEq] at e2
      have h2 := (World.ownsRow.lt OV.out y hy').2
      have h3 : (wr.alloc (.cells #[.int .i64 x.par] 3)).drew.heap.size = wr.heap.size + 1 := by show (wr.alloc (.cells #[.int .i64 x.par] 3)).heap.size = _; rw [World.size_alloc]
      omega))
    clear o1 g1 t1 ch S2 HB O TV CV OV AP
    try simp only [Act.put, Last2.s0, Last2.s1, Last2.s2]
    refine Last2.last_one (i := 13) (o := { dst := some 3, op := .assign (.tmp 33), type := _, pos := _, after := _, guard := none }) (by kernel_rfl) rfl rfl (fun K hK => ?_)
    go_simp
    refine hK.out _ _ (fun h => (h (by decide)).elim) ?_
    clear hK K
    try simp only [Act.put, Last2.s0, Last2.s1, Last2.s2]
    refine Last2.last_done (by kernel_rfl) ?_ _
    go_wp2_with fail
    go_roundw
    case rel =>
     have he : (q ++ [x.par]).length = q.length + 1 := by rw [List.length_append, List.length_singleton]
     refine ⟨j + 1, A1, c1, by omega, by go_num, by rw [HXX.out, he], ?_, ?_, T1.out, C1.out, W1.out, B1.out⟩
     ·rw [HXX.out]
      unfold OwnI
      rw [he, cellsI_append]
      exact O1.out
     ·rw [HXX.out, he]
      exact AP1.out
    case measure => simp [intOf]; omega
   ·have hcb : (e0 == 6) = false := by simpa using k6
    have HXX := Lib.hid (savL_no HS.out k6)
    clear k6
    go_wp2_with fail
    go_roundw
    case rel => exact ⟨j + 1, A', c', by omega, by go_num, by rw [HXX.out], by rw [HXX.out]; exact O.out, by rw [HXX.out]; exact AP.out, TV.out, CV.out, OV.out, HB.out⟩
    case measure => simp [intOf]; omega
  ·obtain rfl : j = N := by omega
   have HB := Lib.hid hb
   have O := Lib.hid hown
   clear hb hown hap hT hC hO
   go_wp2_with fail
   go_ret
   exact ⟨A', c', rfl, O.out, HB.out⟩
def savR (p : Pg) (f arg fuel : Int) : List Int × Bool := (savL (runR p f arg fuel).1.trace (runR p f arg fuel).1.trace.length, (runR p f arg fuel).2)
theorem savR_len (p : Pg) (f arg fuel : Int) : (savR p f arg fuel).1.length ≤ 100000 := Nat.le_trans (savL_len _ _) (runR_len p f arg fuel)
set_option maxRecDepth 100000 in
set_option maxHeartbeats 4000000 in
theorem savS_any (lo n c : Nat) (A : Option Addr) (p : Pg) (f arg fuel : Int) (hn : n ≤ 9223372036854775807) (hl : p.length = n) (hsm : Small p 9223372036854775807) (w : World) (ho : OwnP w lo (.slice A n c) p) :
  Calls Try.prog 42 #[.agg #[.slice A n c], .int .i64 f, .int .i64 arg, .int .i64 fuel] w (IntsR (savR p f arg fuel) w) := by
 have hq := Lib.hid (fun W (h : Below w.heap.size w W) => l2Ask_any w.heap.size A n c p f arg fuel hn hl hsm W (ho.rd.below h) h.size)
 have HAL := Lib.hid (fun o1 : Obj => ((Below.refl w.heap.size w).alloc (Nat.le_refl _) o1))
 have hlen := runR_len p f arg fuel
 cases ha : asks p f arg fuel with
 | false =>
  have hr := Lib.hid (show savR p f arg fuel = ([], false) by unfold savR runR; rw [ha]; rfl)
  rw [ha] at hq
  clear ha ho hsm hlen
  go_enter Try.func42, Try.ntmps42
  go_wp2_with fail
  refine (hq.out _ (HAL.out _)).mono ?_
  rintro e w1 ⟨rfl, b1⟩
  have B := Lib.hid ((HAL.out (.cells #[.slice A n c] 31)).trans (b1.mono (HAL.out (.cells #[.slice A n c] 31)).size))
  clear b1
  go_wp2_with fail
  go_ret2
  exact ⟨_, _, by rw [hr.out] <;> rfl, by rw [hr.out]; exact App.empty_own (heap1_0 w1 _) B.out.size, B.out.alloc B.out.size _⟩
 | true =>
  obtain ⟨h1, h2, h3, h4, h5, h6⟩ := start_wf (n := n) ha
  have hn6 : p.length ≤ 6 ∧ Small p 8 := okProg_small h1
  have hru := Lib.hid (fun W (h : Below w.heap.size w W) => l2Run_any lo n c A p f arg fuel hl (hn6.2.mono (by omega)) (by omega) ha W (ho.below h))
  have hrr : runR p f arg fuel = (run p fuel f arg, true) := by unfold runR; rw [ha]; rfl
  have hr : savR p f arg fuel = (savL (run p fuel f arg).trace (run p fuel f arg).trace.length, true) := by unfold savR; rw [hrr]
  have hwh := runR_whole (p := p) (f := f) (arg := arg) (fuel := fuel) (by rw [hrr])
  have hpd : (pds (run p fuel f arg).trace).2 = true := whole_p p fuel f arg
  rw [hrr] at hlen hwh
  rw [ha] at hq
  clear ha ho hsm h1 h2 h3 h4 h5 h6 hn6 hrr
  generalize run p fuel f arg = r at *
  obtain ⟨k, v, t, s⟩ := r
  dsimp only at hr hlen hwh hpd
  obtain ⟨N, hN⟩ : ∃ N, t.length = N := ⟨_, rfl⟩
  rw [hN] at hr hlen
  have HN := Lib.hid hN
  have HR := Lib.hid hr
  have HWH := Lib.hid hwh
  have HPD := Lib.hid hpd
  clear hr hwh hpd
  go_enter Try.func42, Try.ntmps42
  go_wp2_with fail
  refine (hq.out _ (HAL.out _)).mono ?_
  rintro e w1 ⟨rfl, b1⟩
  have a1' : w1.cell? ⟨w.heap.size, 0, none⟩ = some (.slice A n c) := (Blk.below (heap1_0 w (.cells #[.slice A n c] 31)) b1 (by simp)).cells 0
  have bb := Lib.hid ((HAL.out (.cells #[.slice A n c] 31)).trans (b1.mono (HAL.out (.cells #[.slice A n c] 31)).size))
  clear b1 hq
  go_wp2_with fail
  refine (hru.out _ bb.out).mono ?_
  rintro e w2 ⟨A2, c2, rfl, ht, b2⟩
  unfold outval
  have B2 := Lib.hid (bb.out.trans (b2.mono bb.out.size))
  have HS := Lib.hid (l5Saved_any w2.heap.size N c2 A2 t HWH.out HPD.out HN.out hlen w2 (rd_own (n := N) (c := c2) (by have h := ht; unfold Tre at h; dsimp only at h; rw [hN] at h; exact h)) (Nat.le_refl _))
  dsimp only
  rw [hN]
  clear a1' hru b2 bb ht hN
  have hf2 := fun u => Po.out_field2' (.int .i64 k) (.int .i64 v) (.slice A2 N c2) (.int .i64 s) u
  go_wp2_with fail
  refine HS.out.mono ?_
  rintro e w3 ⟨A3, c3, rfl, o3, b3⟩
  have O3 := Lib.hid (own_mono o3 B2.out.size)
  have B3 := Lib.hid (B2.out.trans (b3.mono B2.out.size))
  clear o3 b3 HS hf2
  go_wp2_with fail
  go_ret2
  exact ⟨A3, c3, by rw [HR.out] <;> rfl, by rw [HR.out]; exact O3.out, B3.out⟩
end Go.Proofs.Ytgcjlkdahlfjlaa.Sv
-- squeezed
