import Derived.Test.YtdmcgkcpclepfaaXrs
import Derived.Test.YtdmcgkcpclepfaaCxp
import Derived.Test.YtdmcgkcpclepfaaSkp
import Derived.Test.YtdmcgkcpclepfaaRea
set_option linter.all false
namespace Go.Proofs.Ytdmcgkcpclepfaa.Cxs
open Lib (hid)
open Go.ChangeShapes Go.WideShapes Go.ChangeAt Go.RowKit
open PL Mem Sst To AskP StpS Res Prg PrgS IntsP LawI SetM Xcp Xpl Xrs Cxp
def K13 (k : Int) : Prop := k = 1 ∨ k = 2 ∨ k = 3 ∨ k = 4 ∨ k = 5 ∨ k = 6 ∨ k = 7 ∨ k = 8 ∨ k = 9 ∨ k = 10 ∨ k = 11 ∨ k = 12 ∨ k = 13
theorem five_own {V : World} {g : Nat} (h : V.heap[g]? = some (.cells #[.int .i64 1, .int .i64 2, .int .i64 3, .int .i64 12, .int .i64 13] 3)) {B : Nat} (hB : B ≤ g) : OwnI V B (.slice (some ⟨g, 0, none⟩) 5 5) [1, 2, 3, 12, 13] :=
 ⟨rfl, .inr ⟨g, 5, #[.int .i64 1, .int .i64 2, .int .i64 3, .int .i64 12, .int .i64 13], rfl, hB, h, Nat.le_refl _, by decide, by simp, by simp [cellsI]⟩⟩
theorem l9Plain_any (k a b : Int) (w : World) :
  Calls Try.prog 62 #[.agg #[.int .i64 k, .int .i64 a, .int .i64 b]] w fun e w' => e = .returned (.bool (plainS (k, a, b))) ∧ Below w.heap.size w w' := by
 have hs := hid (show ([1, 2, 3, 12, 13] : List Int).contains k = plainS (k, a, b) from plain_has k)
 have HO := hid (fun o : Obj => OwnI.rd (five_own (heap2_1 w o (.cells #[.int .i64 1, .int .i64 2, .int .i64 3, .int .i64 12, .int .i64 13] 3)) (Nat.le_refl _)) (n := 5) rfl)
 go_enter Try.func62, Try.ntmps62
 go_wp2_with fail
 refine (ReaP.has_any _ _ 5 5 [1, 2, 3, 12, 13] k (by omega) rfl _ (HO.out _)).mono ?_
 rintro e w2 ⟨rfl, rfl⟩
 rw [hs.out]
 go_wp2_with fail
 go_ret
 exact ⟨rfl, App.Bl.alloc (App.Bl.alloc (App.Bl.refl _) _) _⟩
theorem l9Shared_any (k a b : Int) (w : World) :
  Calls Try.prog 63 #[.agg #[.int .i64 k, .int .i64 a, .int .i64 b]] w fun e w' => e = .returned (.bool (shareS (k, a, b))) ∧ Below w.heap.size w w' := by
 by_cases h1 : k = 12
 ·subst h1
  go_enter Try.func63, Try.ntmps63
  go_wp2_with fail
  go_ret
  exact ⟨rfl, App.Bl.alloc (App.Bl.refl _) _⟩
 ·have k1 : (k == 12) = false := by simpa using h1
  have hs := hid (show shareS (k, a, b) = (k == 13) by unfold shareS; dsimp only; rw [k1]; rfl)
  clear h1
  go_enter Try.func63, Try.ntmps63
  go_wp2_with fail
  go_ret
  exact ⟨by rw [hs.out] <;> rfl, App.Bl.alloc (App.Bl.refl _) _⟩
set_option maxRecDepth 100000 in
theorem l9Meet_any (B n m c c' : Nat) (A A' : Option Addr) (xs ys : List Int) (hn : n ≤ 1000) (hm : m ≤ 1000) (hl : xs.length = n) (hl' : ys.length = m) (w : World) (hr : RdI w B A xs) (hr' : RdI w B A' ys) :
  Calls Try.prog 108 #[.slice A n c, .slice A' m c'] w fun e w' => e = .returned (.bool (meetL xs ys)) ∧ w = w' := by
 have HR := hid hr
 have HR' := hid hr'
 have HL := hid hl
 have HL' := hid hl'
 clear hr hr' hl hl'
 go_enter Try.func108, Try.ntmps108
 go_wp2_with fail
 go_loopw [5] (fun i wr => ∃ k : Nat, k ≤ n ∧ i = .int .i64 k ∧ w = wr ∧ ∀ (j : Nat) (x : Int), j < k → xs[j]? = some x → ys.contains x = false) (fun i _ => n - (intOf i).toNat)
 case atStart => exact ⟨0, Nat.zero_le _, rfl, rfl, fun j x h => absurd h (Nat.not_lt_zero _)⟩
 case round =>
  obtain ⟨k, hk, rfl, rfl, hno⟩ := hrel
  have HNO := hid hno
  clear hno
  by_cases hlt : k < n
  ·obtain ⟨x, hx⟩ : ∃ x, xs[k]? = some x := ⟨_, List.getElem?_eq_getElem (by rw [HL.out]; exact hlt)⟩
   obtain ⟨ad, rfl, -, h0⟩ := HR.out k x hx
   have HX := hid hx
   have HC := hid (ReaP.has_any B A' m c' ys x (by omega) HL'.out w HR'.out)
   clear hx
   cases hc : ys.contains x with
   | true =>
    have hs := hid (show meetL xs ys = true by unfold meetL; rw [List.any_eq_true]; exact ⟨x, List.mem_of_getElem? HX.out, hc⟩)
    rw [hc] at HC
    clear hc
    go_wp2_with fail
    refine HC.out.mono ?_
    rintro e w2 ⟨rfl, rfl⟩
    go_wp2_with fail
    go_ret
    exact ⟨by rw [hs.out] <;> rfl, rfl⟩
   | false =>
    have hc' := hid hc
    rw [hc] at HC
    clear hc
    go_wp2_with fail
    refine HC.out.mono ?_
    rintro e w2 ⟨rfl, rfl⟩
    go_wp2_with fail
    go_roundw
    case rel =>
     refine ⟨k + 1, by omega, by go_num, by first | rfl | trivial, fun j y hj hy => ?_⟩
     rcases Nat.lt_or_ge j k with h | h
     ·exact HNO.out j y h hy
     ·obtain rfl : j = k := by omega
      rw [HX.out] at hy
      cases hy
      exact hc'.out
    case measure => simp [intOf]; omega
  ·obtain rfl : k = n := by omega
   have hs := hid (show meetL xs ys = false by
    unfold meetL
    rw [List.any_eq_false]
    intro x hx
    obtain ⟨j, hj, rfl⟩ := List.getElem_of_mem hx
    rw [HNO.out j _ (by rw [HL.out] at hj; exact hj) (List.getElem?_eq_getElem hj)]
    decide)
   go_wp2_with fail
   go_ret
   exact ⟨by rw [hs.out] <;> rfl, rfl⟩
set_option maxRecDepth 100000 in
set_option maxHeartbeats 8000000 in
theorem l9Free_any (k a b k' a' b' : Int) (hk : K13 k) (hk' : K13 k') (w : World) :
  Calls Try.prog 64 #[.agg #[.int .i64 k, .int .i64 a, .int .i64 b], .agg #[.int .i64 k', .int .i64 a', .int .i64 b']] w fun e w' => e = .returned (.bool (freeS (k, a, b) (k', a', b'))) ∧ Below w.heap.size w w' := by
 have cWs := hid (fun W => l9Writes_any k a b hk W)
 have cRs := hid (fun W => l9Reads_any k a b hk W)
 have cWt := hid (fun W => l9Writes_any k' a' b' hk' W)
 have cRt := hid (fun W => l9Reads_any k' a' b' hk' W)
 have q1 := wrL_len (k, a, b)
 have q2 := rdL_len (k, a, b)
 have q3 := wrL_len (k', a', b')
 have q4 := rdL_len (k', a', b')
 have hfr : freeS (k, a, b) (k', a', b') = (!meetL (wrL (k, a, b)) (rdL (k', a', b')) && !meetL (wrL (k, a, b)) (wrL (k', a', b')) && !meetL (wrL (k', a', b')) (rdL (k, a, b))) := rfl
 generalize freeS (k, a, b) (k', a', b') = R at *
 generalize wrL (k, a, b) = ws at *
 generalize rdL (k, a, b) = rs at *
 generalize wrL (k', a', b') = wt at *
 generalize rdL (k', a', b') = rt at *
 clear hk hk'
 unfold LR at cWs cRs cWt cRt
 obtain ⟨m1, hm1⟩ : ∃ m, meetL ws rt = m := ⟨_, rfl⟩
 obtain ⟨m2, hm2⟩ : ∃ m, meetL ws wt = m := ⟨_, rfl⟩
 obtain ⟨m3, hm3⟩ : ∃ m, meetL wt rs = m := ⟨_, rfl⟩
 rw [hm1, hm2, hm3] at hfr
 have M1 := hid hm1
 have M2 := hid hm2
 have M3 := hid hm3
 clear hm1 hm2 hm3
 go_enter Try.func64, Try.ntmps64
 go_upto_region 1 with fail
 change (fun V => Code.wp _ _ _ _ V) _
 refine gen_world (X := fun V => Blk V w.heap.size 58 #[.int .i64 k, .int .i64 a, .int .i64 b] ∧ Blk V (w.heap.size + 1) 58 #[.int .i64 k', .int .i64 a', .int .i64 b'] ∧ Below w.heap.size w V) ⟨heap2_0 w _ _, heap2_1 w _ _, App.Bl.alloc (App.Bl.alloc (App.Bl.refl _) _) _⟩ ?_
 rintro w1 ⟨x1, x2, b1⟩
 have B1 := hid b1
 have X1 := hid x1
 have X2 := hid x2
 have hX := hid (fun (V : World) (bV : Below w1.heap.size w1 V) => (show V.cell? ⟨w.heap.size, 0, none⟩ = some (.int .i64 k) ∧ V.cell? ⟨w.heap.size, 1, none⟩ = some (.int .i64 a) ∧ V.cell? ⟨w.heap.size, 2, none⟩ = some (.int .i64 b) ∧ V.cell? ⟨w.heap.size + 1, 0, none⟩ = some (.int .i64 k') ∧ V.cell? ⟨w.heap.size + 1, 1, none⟩ = some (.int .i64 a') ∧ V.cell? ⟨w.heap.size + 1, 2, none⟩ = some (.int .i64 b') from ⟨(X1.out.below bV X1.out.lt).cells 0, (X1.out.below bV X1.out.lt).cells 1, (X1.out.below bV X1.out.lt).cells 2, (X2.out.below bV X2.out.lt).cells 0, (X2.out.below bV X2.out.lt).cells 1, (X2.out.below bV X2.out.lt).cells 2⟩))
 clear x1 x2 b1
 go_wp2_with fail
 have S0 : (fun V => V.cell? ⟨w.heap.size, 0, none⟩ = some (.int .i64 k) ∧ V.cell? ⟨w.heap.size, 1, none⟩ = some (.int .i64 a) ∧ V.cell? ⟨w.heap.size, 2, none⟩ = some (.int .i64 b) ∧ V.cell? ⟨w.heap.size + 1, 0, none⟩ = some (.int .i64 k') ∧ V.cell? ⟨w.heap.size + 1, 1, none⟩ = some (.int .i64 a') ∧ V.cell? ⟨w.heap.size + 1, 2, none⟩ = some (.int .i64 b')) w1.drew := hX.out _ (Below.refl _ _).drew
 refine Last2.region_last [] (fun V => V.cell? ⟨w.heap.size, 0, none⟩ = some (.int .i64 k) ∧ V.cell? ⟨w.heap.size, 1, none⟩ = some (.int .i64 a) ∧ V.cell? ⟨w.heap.size, 2, none⟩ = some (.int .i64 b) ∧ V.cell? ⟨w.heap.size + 1, 0, none⟩ = some (.int .i64 k') ∧ V.cell? ⟨w.heap.size + 1, 1, none⟩ = some (.int .i64 a') ∧ V.cell? ⟨w.heap.size + 1, 2, none⟩ = some (.int .i64 b')) (by kernel_rfl) ?_
 refine Last2.tk 0 5 (.agg #[.int .i64 k, .int .i64 a, .int .i64 b]) S0 ?_
 simp only [Act.put, Last2.s]
 refine Last2.tk 2 7 (.agg #[.int .i64 k', .int .i64 a', .int .i64 b']) S0 ?_
 simp only [Act.put, Last2.s]
 refine Last2.last_one (i := 1) (o := { dst := some 6, op := .call { callee := .value (.func 59), args := #[.tmp 5], argTypes := #[58] }, type := _, pos := _, after := _, guard := _ }) (by kernel_rfl) rfl rfl (fun K hK => ?_)
 go_simp
 refine (cWs.out w1.drew).mono ?_
 rintro e wa1 ⟨Aa1, ca1, rfl, oa1, ba1⟩
 have ta1 : Below w1.heap.size w1 wa1 := ((Below.refl w1.heap.size w1).drew).trans (ba1.mono ((Below.refl w1.heap.size w1).drew).size)
 refine hK.out _ _ (fun _ => hX.out _ ta1) ?_
 clear hK K
 try simp only [Act.put, Last2.s]
 refine Last2.last_one (i := 3) (o := { dst := some 8, op := .call { callee := .value (.func 53), args := #[.tmp 7], argTypes := #[58] }, type := _, pos := _, after := _, guard := _ }) (by kernel_rfl) rfl rfl (fun K hK => ?_)
 go_simp
 refine (cRt.out wa1).mono ?_
 rintro e wb1 ⟨Ab1, cb1, rfl, ob1, bb1⟩
 have tb1 : Below w1.heap.size w1 wb1 := ta1.trans (bb1.mono ta1.size)
 refine hK.out _ _ (fun _ => hX.out _ tb1) ?_
 clear hK K
 try simp only [Act.put, Last2.s]
 refine Last2.last_one (i := 4) (o := { dst := some 9, op := .call { callee := .value (.func 108), args := #[.tmp 6, .tmp 8], argTypes := #[26, 26] }, type := _, pos := _, after := _, guard := _ }) (by kernel_rfl) rfl rfl (fun K hK => ?_)
 go_simp
 refine (l9Meet_any wb1.heap.size _ _ ca1 cb1 Aa1 Ab1 _ _ (by omega) (by omega) rfl rfl wb1 ((OwnI.rd oa1 rfl).below bb1 |>.more bb1.size) (OwnI.rd ob1 rfl)).mono ?_
 rintro e wc1 ⟨rfl, rfl⟩
 rw [M1.out]
 refine hK.out _ _ (fun _ => hX.out _ tb1) ?_
 clear hK K
 try simp only [Act.put, Last2.s]
 have S1 := hX.out _ tb1
 cases m1 with
 | true =>
  have hr := hid (show R = false by rw [hfr]; rfl)
  clear hfr
  refine Last2.last_take (i := 5) (d := some 10) (v := .bool false) rfl rfl (by kernel_rfl) (by kernel_rfl) (by kernel_rfl) (fun _ _ _ h => h) rfl (by kernel_rfl) (by kernel_rfl) rfl ?_ S1 ?_
  ·(intro V hV; (try dsimp only at hV); go_simp; try with_reducible rfl)
  simp only [Act.put, Last2.s]
  refine Last2.last_take (i := 6) (d := some 11) (v := .bool false) rfl rfl (by kernel_rfl) (by kernel_rfl) (by kernel_rfl) (fun _ _ _ h => h) rfl (by kernel_rfl) (by kernel_rfl) rfl ?_ S1 ?_
  ·(intro V hV; (try dsimp only at hV); go_simp; try with_reducible rfl)
  simp only [Act.put, Last2.s]
  refine Last2.last_skip (i := 7) (d := some 12) rfl rfl (by kernel_rfl) (by kernel_rfl) (by kernel_rfl) (fun _ _ _ h => h) rfl (by kernel_rfl) (by kernel_rfl) (by rfl) S1 ?_
  simp only [Act.put, Last2.s]
  refine Last2.last_skip (i := 8) (d := some 13) rfl rfl (by kernel_rfl) (by kernel_rfl) (by kernel_rfl) (fun _ _ _ h => h) rfl (by kernel_rfl) (by kernel_rfl) (by rfl) S1 ?_
  simp only [Act.put, Last2.s]
  refine Last2.last_skip (i := 9) (d := some 14) rfl rfl (by kernel_rfl) (by kernel_rfl) (by kernel_rfl) (fun _ _ _ h => h) rfl (by kernel_rfl) (by kernel_rfl) (by rfl) S1 ?_
  simp only [Act.put, Last2.s]
  refine Last2.last_skip (i := 10) (d := some 15) rfl rfl (by kernel_rfl) (by kernel_rfl) (by kernel_rfl) (fun _ _ _ h => h) rfl (by kernel_rfl) (by kernel_rfl) (by rfl) S1 ?_
  simp only [Act.put, Last2.s]
  refine Last2.last_skip (i := 11) (d := some 16) rfl rfl (by kernel_rfl) (by kernel_rfl) (by kernel_rfl) (fun _ _ _ h => h) rfl (by kernel_rfl) (by kernel_rfl) (by rfl) S1 ?_
  simp only [Act.put, Last2.s]
  refine Last2.last_skip (i := 12) (d := some 17) rfl rfl (by kernel_rfl) (by kernel_rfl) (by kernel_rfl) (fun _ _ _ h => h) rfl (by kernel_rfl) (by kernel_rfl) (by rfl) S1 ?_
  simp only [Act.put, Last2.s]
  refine Last2.last_take (i := 13) (d := some 18) (v := .bool false) rfl rfl (by kernel_rfl) (by kernel_rfl) (by kernel_rfl) (fun _ _ _ h => h) rfl (by kernel_rfl) (by kernel_rfl) rfl ?_ S1 ?_
  ·(intro V hV; (try dsimp only at hV); go_simp; try with_reducible rfl)
  simp only [Act.put, Last2.s]
  refine Last2.last_take (i := 14) (d := some 19) (v := .bool false) rfl rfl (by kernel_rfl) (by kernel_rfl) (by kernel_rfl) (fun _ _ _ h => h) rfl (by kernel_rfl) (by kernel_rfl) rfl ?_ S1 ?_
  ·(intro V hV; (try dsimp only at hV); go_simp; try with_reducible rfl)
  simp only [Act.put, Last2.s]
  refine Last2.last_skip (i := 15) (d := some 20) rfl rfl (by kernel_rfl) (by kernel_rfl) (by kernel_rfl) (fun _ _ _ h => h) rfl (by kernel_rfl) (by kernel_rfl) (by rfl) S1 ?_
  simp only [Act.put, Last2.s]
  refine Last2.last_skip (i := 16) (d := some 21) rfl rfl (by kernel_rfl) (by kernel_rfl) (by kernel_rfl) (fun _ _ _ h => h) rfl (by kernel_rfl) (by kernel_rfl) (by rfl) S1 ?_
  simp only [Act.put, Last2.s]
  refine Last2.last_skip (i := 17) (d := some 22) rfl rfl (by kernel_rfl) (by kernel_rfl) (by kernel_rfl) (fun _ _ _ h => h) rfl (by kernel_rfl) (by kernel_rfl) (by rfl) S1 ?_
  simp only [Act.put, Last2.s]
  refine Last2.last_skip (i := 18) (d := some 23) rfl rfl (by kernel_rfl) (by kernel_rfl) (by kernel_rfl) (fun _ _ _ h => h) rfl (by kernel_rfl) (by kernel_rfl) (by rfl) S1 ?_
  simp only [Act.put, Last2.s]
  refine Last2.last_skip (i := 19) (d := some 24) rfl rfl (by kernel_rfl) (by kernel_rfl) (by kernel_rfl) (fun _ _ _ h => h) rfl (by kernel_rfl) (by kernel_rfl) (by rfl) S1 ?_
  simp only [Act.put, Last2.s]
  refine Last2.last_skip (i := 20) (d := some 25) rfl rfl (by kernel_rfl) (by kernel_rfl) (by kernel_rfl) (fun _ _ _ h => h) rfl (by kernel_rfl) (by kernel_rfl) (by rfl) S1 ?_
  simp only [Act.put, Last2.s]
  refine Last2.last_take (i := 21) (d := some 26) (v := .bool false) rfl rfl (by kernel_rfl) (by kernel_rfl) (by kernel_rfl) (fun _ _ _ h => h) rfl (by kernel_rfl) (by kernel_rfl) rfl ?_ S1 ?_
  ·(intro V hV; (try dsimp only at hV); go_simp; try with_reducible rfl)
  simp only [Act.put, Last2.s]
  refine Last2.last_take (i := 22) (d := some 4) (v := .bool false) rfl rfl (by kernel_rfl) (by kernel_rfl) (by kernel_rfl) (fun _ _ _ h => h) rfl (by kernel_rfl) (by kernel_rfl) rfl ?_ S1 ?_
  ·(intro V hV; (try dsimp only at hV); go_simp; try with_reducible rfl)
  simp only [Act.put, Last2.s]
  refine Last2.last_done (by kernel_rfl) ?_ _
  have TT := hid tb1
  go_wp2_with fail
  go_ret
  exact ⟨by rw [hr.out] <;> rfl, B1.out.trans (TT.out.mono B1.out.size)⟩
 | false =>
  refine Last2.last_take (i := 5) (d := some 10) (v := .bool true) rfl rfl (by kernel_rfl) (by kernel_rfl) (by kernel_rfl) (fun _ _ _ h => h) rfl (by kernel_rfl) (by kernel_rfl) rfl ?_ S1 ?_
  ·(intro V hV; (try dsimp only at hV); go_simp; try with_reducible rfl)
  simp only [Act.put, Last2.s]
  refine Last2.last_take (i := 6) (d := some 11) (v := .bool true) rfl rfl (by kernel_rfl) (by kernel_rfl) (by kernel_rfl) (fun _ _ _ h => h) rfl (by kernel_rfl) (by kernel_rfl) rfl ?_ S1 ?_
  ·(intro V hV; (try dsimp only at hV); go_simp; try with_reducible rfl)
  simp only [Act.put, Last2.s]
  refine Last2.last_take (i := 7) (d := some 12) (v := .agg #[.int .i64 k, .int .i64 a, .int .i64 b]) rfl rfl (by kernel_rfl) (by kernel_rfl) (by kernel_rfl) (fun _ _ _ h => h) rfl (by kernel_rfl) (by kernel_rfl) rfl ?_ S1 ?_
  ·(intro V hV; (try dsimp only at hV); go_simp; try with_reducible rfl)
  simp only [Act.put, Last2.s]
  refine Last2.last_take (i := 9) (d := some 14) (v := .agg #[.int .i64 k', .int .i64 a', .int .i64 b']) rfl rfl (by kernel_rfl) (by kernel_rfl) (by kernel_rfl) (fun _ _ _ h => h) rfl (by kernel_rfl) (by kernel_rfl) rfl ?_ S1 ?_
  ·(intro V hV; (try dsimp only at hV); go_simp; try with_reducible rfl)
  simp only [Act.put, Last2.s]
  refine Last2.last_one (i := 8) (o := { dst := some 13, op := .call { callee := .value (.func 59), args := #[.tmp 12], argTypes := #[58] }, type := _, pos := _, after := _, guard := _ }) (by kernel_rfl) rfl rfl (fun K hK => ?_)
  go_simp
  refine (cWs.out wb1).mono ?_
  rintro e wa2 ⟨Aa2, ca2, rfl, oa2, ba2⟩
  have ta2 : Below w1.heap.size w1 wa2 := (tb1).trans (ba2.mono (tb1).size)
  refine hK.out _ _ (fun _ => hX.out _ ta2) ?_
  clear hK K
  try simp only [Act.put, Last2.s]
  refine Last2.last_one (i := 10) (o := { dst := some 15, op := .call { callee := .value (.func 59), args := #[.tmp 14], argTypes := #[58] }, type := _, pos := _, after := _, guard := _ }) (by kernel_rfl) rfl rfl (fun K hK => ?_)
  go_simp
  refine (cWt.out wa2).mono ?_
  rintro e wb2 ⟨Ab2, cb2, rfl, ob2, bb2⟩
  have tb2 : Below w1.heap.size w1 wb2 := ta2.trans (bb2.mono ta2.size)
  refine hK.out _ _ (fun _ => hX.out _ tb2) ?_
  clear hK K
  try simp only [Act.put, Last2.s]
  refine Last2.last_one (i := 11) (o := { dst := some 16, op := .call { callee := .value (.func 108), args := #[.tmp 13, .tmp 15], argTypes := #[26, 26] }, type := _, pos := _, after := _, guard := _ }) (by kernel_rfl) rfl rfl (fun K hK => ?_)
  go_simp
  refine (l9Meet_any wb2.heap.size _ _ ca2 cb2 Aa2 Ab2 _ _ (by omega) (by omega) rfl rfl wb2 ((OwnI.rd oa2 rfl).below bb2 |>.more bb2.size) (OwnI.rd ob2 rfl)).mono ?_
  rintro e wc2 ⟨rfl, rfl⟩
  rw [M2.out]
  refine hK.out _ _ (fun _ => hX.out _ tb2) ?_
  clear hK K
  try simp only [Act.put, Last2.s]
  have S2 := hX.out _ tb2
  cases m2 with
  | true =>
   have hr := hid (show R = false by rw [hfr]; rfl)
   clear hfr
   refine Last2.last_take (i := 12) (d := some 17) (v := .bool false) rfl rfl (by kernel_rfl) (by kernel_rfl) (by kernel_rfl) (fun _ _ _ h => h) rfl (by kernel_rfl) (by kernel_rfl) rfl ?_ S2 ?_
   ·(intro V hV; (try dsimp only at hV); go_simp; try with_reducible rfl)
   simp only [Act.put, Last2.s]
   refine Last2.last_take (i := 13) (d := some 18) (v := .bool false) rfl rfl (by kernel_rfl) (by kernel_rfl) (by kernel_rfl) (fun _ _ _ h => h) rfl (by kernel_rfl) (by kernel_rfl) rfl ?_ S2 ?_
   ·(intro V hV; (try dsimp only at hV); go_simp; try with_reducible rfl)
   simp only [Act.put, Last2.s]
   refine Last2.last_take (i := 14) (d := some 19) (v := .bool false) rfl rfl (by kernel_rfl) (by kernel_rfl) (by kernel_rfl) (fun _ _ _ h => h) rfl (by kernel_rfl) (by kernel_rfl) rfl ?_ S2 ?_
   ·(intro V hV; (try dsimp only at hV); go_simp; try with_reducible rfl)
   simp only [Act.put, Last2.s]
   refine Last2.last_skip (i := 15) (d := some 20) rfl rfl (by kernel_rfl) (by kernel_rfl) (by kernel_rfl) (fun _ _ _ h => h) rfl (by kernel_rfl) (by kernel_rfl) (by rfl) S2 ?_
   simp only [Act.put, Last2.s]
   refine Last2.last_skip (i := 16) (d := some 21) rfl rfl (by kernel_rfl) (by kernel_rfl) (by kernel_rfl) (fun _ _ _ h => h) rfl (by kernel_rfl) (by kernel_rfl) (by rfl) S2 ?_
   simp only [Act.put, Last2.s]
   refine Last2.last_skip (i := 17) (d := some 22) rfl rfl (by kernel_rfl) (by kernel_rfl) (by kernel_rfl) (fun _ _ _ h => h) rfl (by kernel_rfl) (by kernel_rfl) (by rfl) S2 ?_
   simp only [Act.put, Last2.s]
   refine Last2.last_skip (i := 18) (d := some 23) rfl rfl (by kernel_rfl) (by kernel_rfl) (by kernel_rfl) (fun _ _ _ h => h) rfl (by kernel_rfl) (by kernel_rfl) (by rfl) S2 ?_
   simp only [Act.put, Last2.s]
   refine Last2.last_skip (i := 19) (d := some 24) rfl rfl (by kernel_rfl) (by kernel_rfl) (by kernel_rfl) (fun _ _ _ h => h) rfl (by kernel_rfl) (by kernel_rfl) (by rfl) S2 ?_
   simp only [Act.put, Last2.s]
   refine Last2.last_skip (i := 20) (d := some 25) rfl rfl (by kernel_rfl) (by kernel_rfl) (by kernel_rfl) (fun _ _ _ h => h) rfl (by kernel_rfl) (by kernel_rfl) (by rfl) S2 ?_
   simp only [Act.put, Last2.s]
   refine Last2.last_take (i := 21) (d := some 26) (v := .bool false) rfl rfl (by kernel_rfl) (by kernel_rfl) (by kernel_rfl) (fun _ _ _ h => h) rfl (by kernel_rfl) (by kernel_rfl) rfl ?_ S2 ?_
   ·(intro V hV; (try dsimp only at hV); go_simp; try with_reducible rfl)
   simp only [Act.put, Last2.s]
   refine Last2.last_take (i := 22) (d := some 4) (v := .bool false) rfl rfl (by kernel_rfl) (by kernel_rfl) (by kernel_rfl) (fun _ _ _ h => h) rfl (by kernel_rfl) (by kernel_rfl) rfl ?_ S2 ?_
   ·(intro V hV; (try dsimp only at hV); go_simp; try with_reducible rfl)
   simp only [Act.put, Last2.s]
   refine Last2.last_done (by kernel_rfl) ?_ _
   have TT := hid tb2
   go_wp2_with fail
   go_ret
   exact ⟨by rw [hr.out] <;> rfl, B1.out.trans (TT.out.mono B1.out.size)⟩
  | false =>
   refine Last2.last_take (i := 12) (d := some 17) (v := .bool true) rfl rfl (by kernel_rfl) (by kernel_rfl) (by kernel_rfl) (fun _ _ _ h => h) rfl (by kernel_rfl) (by kernel_rfl) rfl ?_ S2 ?_
   ·(intro V hV; (try dsimp only at hV); go_simp; try with_reducible rfl)
   simp only [Act.put, Last2.s]
   refine Last2.last_take (i := 13) (d := some 18) (v := .bool true) rfl rfl (by kernel_rfl) (by kernel_rfl) (by kernel_rfl) (fun _ _ _ h => h) rfl (by kernel_rfl) (by kernel_rfl) rfl ?_ S2 ?_
   ·(intro V hV; (try dsimp only at hV); go_simp; try with_reducible rfl)
   simp only [Act.put, Last2.s]
   refine Last2.last_take (i := 14) (d := some 19) (v := .bool true) rfl rfl (by kernel_rfl) (by kernel_rfl) (by kernel_rfl) (fun _ _ _ h => h) rfl (by kernel_rfl) (by kernel_rfl) rfl ?_ S2 ?_
   ·(intro V hV; (try dsimp only at hV); go_simp; try with_reducible rfl)
   simp only [Act.put, Last2.s]
   refine Last2.last_take (i := 15) (d := some 20) (v := .agg #[.int .i64 k', .int .i64 a', .int .i64 b']) rfl rfl (by kernel_rfl) (by kernel_rfl) (by kernel_rfl) (fun _ _ _ h => h) rfl (by kernel_rfl) (by kernel_rfl) rfl ?_ S2 ?_
   ·(intro V hV; (try dsimp only at hV); go_simp; try with_reducible rfl)
   simp only [Act.put, Last2.s]
   refine Last2.last_take (i := 17) (d := some 22) (v := .agg #[.int .i64 k, .int .i64 a, .int .i64 b]) rfl rfl (by kernel_rfl) (by kernel_rfl) (by kernel_rfl) (fun _ _ _ h => h) rfl (by kernel_rfl) (by kernel_rfl) rfl ?_ S2 ?_
   ·(intro V hV; (try dsimp only at hV); go_simp; try with_reducible rfl)
   simp only [Act.put, Last2.s]
   refine Last2.last_one (i := 16) (o := { dst := some 21, op := .call { callee := .value (.func 59), args := #[.tmp 20], argTypes := #[58] }, type := _, pos := _, after := _, guard := _ }) (by kernel_rfl) rfl rfl (fun K hK => ?_)
   go_simp
   refine (cWt.out wb2).mono ?_
   rintro e wa3 ⟨Aa3, ca3, rfl, oa3, ba3⟩
   have ta3 : Below w1.heap.size w1 wa3 := (tb2).trans (ba3.mono (tb2).size)
   refine hK.out _ _ (fun _ => hX.out _ ta3) ?_
   clear hK K
   try simp only [Act.put, Last2.s]
   refine Last2.last_one (i := 18) (o := { dst := some 23, op := .call { callee := .value (.func 53), args := #[.tmp 22], argTypes := #[58] }, type := _, pos := _, after := _, guard := _ }) (by kernel_rfl) rfl rfl (fun K hK => ?_)
   go_simp
   refine (cRs.out wa3).mono ?_
   rintro e wb3 ⟨Ab3, cb3, rfl, ob3, bb3⟩
   have tb3 : Below w1.heap.size w1 wb3 := ta3.trans (bb3.mono ta3.size)
   refine hK.out _ _ (fun _ => hX.out _ tb3) ?_
   clear hK K
   try simp only [Act.put, Last2.s]
   refine Last2.last_one (i := 19) (o := { dst := some 24, op := .call { callee := .value (.func 108), args := #[.tmp 21, .tmp 23], argTypes := #[26, 26] }, type := _, pos := _, after := _, guard := _ }) (by kernel_rfl) rfl rfl (fun K hK => ?_)
   go_simp
   refine (l9Meet_any wb3.heap.size _ _ ca3 cb3 Aa3 Ab3 _ _ (by omega) (by omega) rfl rfl wb3 ((OwnI.rd oa3 rfl).below bb3 |>.more bb3.size) (OwnI.rd ob3 rfl)).mono ?_
   rintro e wc3 ⟨rfl, rfl⟩
   rw [M3.out]
   refine hK.out _ _ (fun _ => hX.out _ tb3) ?_
   clear hK K
   try simp only [Act.put, Last2.s]
   have S3 := hX.out _ tb3
   have hr := hid (show R = !m3 by rw [hfr]; cases m3 <;> rfl)
   clear hfr
   refine Last2.last_take (i := 20) (d := some 25) (v := .bool (!m3)) rfl rfl (by kernel_rfl) (by kernel_rfl) (by kernel_rfl) (fun _ _ _ h => h) rfl (by kernel_rfl) (by kernel_rfl) rfl ?_ S3 ?_
   ·(intro V hV; (try dsimp only at hV); go_simp; try with_reducible rfl)
   simp only [Act.put, Last2.s]
   refine Last2.last_take (i := 21) (d := some 26) (v := .bool (!m3)) rfl rfl (by kernel_rfl) (by kernel_rfl) (by kernel_rfl) (fun _ _ _ h => h) rfl (by kernel_rfl) (by kernel_rfl) rfl ?_ S3 ?_
   ·(intro V hV; (try dsimp only at hV); go_simp; try with_reducible rfl)
   simp only [Act.put, Last2.s]
   refine Last2.last_take (i := 22) (d := some 4) (v := .bool (!m3)) rfl rfl (by kernel_rfl) (by kernel_rfl) (by kernel_rfl) (fun _ _ _ h => h) rfl (by kernel_rfl) (by kernel_rfl) rfl ?_ S3 ?_
   ·(intro V hV; (try dsimp only at hV); go_simp; try with_reducible rfl)
   simp only [Act.put, Last2.s]
   refine Last2.last_done (by kernel_rfl) ?_ _
   have TT := hid tb3
   go_wp2_with fail
   go_ret
   exact ⟨by rw [hr.out] <;> rfl, B1.out.trans (TT.out.mono B1.out.size)⟩
end Go.Proofs.Ytdmcgkcpclepfaa.Cxs
-- squeezed
