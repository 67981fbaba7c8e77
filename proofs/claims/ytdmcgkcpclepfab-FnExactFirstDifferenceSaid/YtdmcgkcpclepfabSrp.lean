import Derived.Test.YtdmcgkcpclepfabSays
import Derived.Test.YtdmcgkcpclepfabSme
import Derived.Test.YtdmcgkcpclepfabPArgP
import Derived.Deep.RegionHeld3
import Derived.Test.YtdmcgkcpclepfabM3
import Derived.Deep.QuietTactic
import Derived.BigQuiet
set_option linter.all false
namespace Go.Proofs.Ytdmcgkcpclepfab.Srp
open Last2 (tk)
open Lib (hid)
open Go.ChangeShapes Go.WideShapes Go.ChangeAt Go.RowKit
open PL Mem Srun Sst To OwnS AskP Res StpS PrgS Swhole Sout Irp RunF IntsP LawI PArgP SaysP Sme
def alikeO (a b : Out) : Bool := a.kind == b.kind && a.value == b.value && decide (saids a.trace = saids b.trace)
set_option maxRecDepth 100000 in
set_option maxHeartbeats 4000000 in
theorem l7Range_any (B : Nat) (A : Option Addr) (n c : Nat) (p : Pg) (f low high fuel : Int) (hn : n ≤ 9223372036854775807) (hl : p.length = n) (hsm : Small p 9223372036854775807) (w : World) (hr : RdP w B A p) (hB : B ≤ w.heap.size) :
  Calls Try.prog 47 #[.agg #[.slice A n c], .int .i64 f, .int .i64 low, .int .i64 high, .int .i64 fuel] w fun e w' => e = .returned (.bool (rangeOk p f low high fuel)) ∧ Below w.heap.size w w' := by
 have hq := hid (fun W (h : Below w.heap.size w W) => l2Ask_any B A n c p f low fuel hn hl hsm W (hr.below (h.mono hB)) (Nat.le_trans hB h.size))
 have hN := hid (fun W => l2Number_any high W)
 have hI := hid (fun W => l1In_any (high - low) 0 100 W)
 have HALs := hid (show Below w.heap.size w (w.alloc (.cells #[.slice A n c] 30)) from (Below.refl _ _).alloc (Nat.le_refl _) _)
 have hnum : asks p f low fuel = true → -32768 ≤ low ∧ low ≤ 32767 := asks_num
 have hs : rangeOk p f low high fuel = (asks p f low fuel && (isNum high && btw (high - low) 0 100)) := rfl
 generalize rangeOk p f low high fuel = R at *
 clear hr hsm
 cases h1 : asks p f low fuel with
 | false =>
  rw [h1] at hq hs
  have HS := hid (show R = false by rw [hs]; rfl)
  clear hs hnum h1
  go_enter Try.func47, Try.ntmps47
  go_wp2_with fail
  refine (hq.out _ HALs.out).mono ?_
  rintro e w1 ⟨rfl, b1⟩
  go_wp2_with fail
  go_ret
  exact ⟨by rw [HS.out]; rfl, HALs.out.trans (b1.mono HALs.out.size)⟩
 | true =>
  obtain ⟨hl1, hl2⟩ := hnum h1
  rw [h1] at hq hs
  cases h2 : isNum high with
  | false =>
   rw [h2] at hN hs
   have HS := hid (show R = false by rw [hs]; rfl)
   clear hs hnum h1 h2
   go_enter Try.func47, Try.ntmps47
   go_wp2_with fail
   refine (hq.out _ HALs.out).mono ?_
   rintro e w1 ⟨rfl, b1⟩
   go_wp2_with fail
   refine (hN.out _).mono ?_
   rintro e w2 ⟨rfl, rfl⟩
   go_wp2_with fail
   go_ret
   exact ⟨by rw [HS.out]; rfl, HALs.out.trans (b1.mono HALs.out.size)⟩
  | true =>
   have hh : -32768 ≤ high ∧ high ≤ 32767 := by unfold isNum at h2; simpa using h2
   obtain ⟨hh1, hh2⟩ := hh
   rw [h2] at hN hs
   generalize hb : btw (high - low) 0 100 = b at hs hI
   have HS := hid (show R = b by rw [hs]; simp)
   clear hs hnum h1 h2 hb
   go_enter Try.func47, Try.ntmps47
   go_wp2_with fail
   refine (hq.out _ HALs.out).mono ?_
   rintro e w1 ⟨rfl, b1⟩
   go_wp2_with fail
   refine (hN.out _).mono ?_
   rintro e w2 ⟨rfl, rfl⟩
   go_wp2_with fail
   refine (hI.out _).mono ?_
   rintro e w3 ⟨rfl, rfl⟩
   go_wp2_with fail
   go_ret
   exact ⟨by rw [HS.out] <;> rfl, HALs.out.trans (b1.mono HALs.out.size)⟩
set_option maxRecDepth 100000 in
set_option maxHeartbeats 8000000 in
theorem l9Alike_any (B N1 N2 c1 c2 : Nat) (A1 A2 : Option Addr) (t1 t2 : List Tr) (k v s k' v' s' : Int) (h1 : t1.length = N1) (h2 : t2.length = N2) (hn1 : N1 ≤ 100000) (hn2 : N2 ≤ 100000) (w : World) (r1 : Rd3 w B A1 t1) (r2 : Rd3 w B A2 t2) (hB : B ≤ w.heap.size) :
  Calls Try.prog 48 #[.agg #[.int .i64 k, .int .i64 v, .slice A1 N1 c1, .int .i64 s], .agg #[.int .i64 k', .int .i64 v', .slice A2 N2 c2, .int .i64 s']] w fun e w' => e = .returned (.bool (k == k' && v == v' && decide (saids t1 = saids t2))) ∧ Below w.heap.size w w' := by
 by_cases hk : k = k'
 ·by_cases hv : v = v'
  ·subst hk
   subst hv
   have hr := hid (show (k == k && v == v && decide (saids t1 = saids t2)) = decide (saids t1 = saids t2) by simp)
   have cA := hid (fun (W : World) (b : Below w.heap.size w W) => l2Says_any B N1 c1 A1 t1 k v s h1 hn1 W (r1.below (b.mono hB)) (Nat.le_trans hB b.size))
   have cB := hid (fun (W : World) (b : Below w.heap.size w W) => l2Says_any B N2 c2 A2 t2 k v s' h2 hn2 W (r2.below (b.mono hB)) (Nat.le_trans hB b.size))
   have cS := hid (fun (W : World) (A A' : Option Addr) (c c' : Nat) (q1 : RdI W W.heap.size A (saids t1)) (q2 : RdI W W.heap.size A' (saids t2)) => l1Same_any (saids t1).length (saids t2).length c c' A A' (saids t1) (saids t2) (Nat.le_trans (saids_len t1) (by omega)) (Nat.le_trans (saids_len t2) (by omega)) rfl rfl W.heap.size W (Nat.le_refl _) q1 q2)
   generalize saids t1 = x1s at *
   generalize saids t2 = x2s at *
   clear r1 r2 h1 h2
   go_enter Try.func48, Try.ntmps48
   go_upto_region 1 with fail
   change (fun V => Code.wp _ _ _ _ V) _
   refine gen_world (X := fun V => Blk V w.heap.size 77 #[.int .i64 k, .int .i64 v, .slice A1 N1 c1, .int .i64 s] ∧ Blk V (w.heap.size + 1) 77 #[.int .i64 k, .int .i64 v, .slice A2 N2 c2, .int .i64 s'] ∧ Below w.heap.size w V ∧ w.heap.size + 1 < V.heap.size) ⟨heap2_0 w _ _, heap2_1 w _ _, App.Bl.alloc (App.Bl.alloc (App.Bl.refl _) _) _, by simp⟩ ?_
   rintro w1 ⟨x1, x2, b1, l1⟩
   have B1 := hid b1
   have y0 := x1.cells 0
   have y1 := x1.cells 1
   have y2 := x1.cells 2
   have y3 := x1.cells 3
   have u0 := x2.cells 0
   have u1 := x2.cells 1
   have u2 := x2.cells 2
   have u3 := x2.cells 3
   have hX := hid (fun (V : World) (b : Below w1.heap.size w1 V) => (show V.cell? ⟨w.heap.size, 0, none⟩ = some (.int .i64 k) ∧ V.cell? ⟨w.heap.size, 1, none⟩ = some (.int .i64 v) ∧ V.cell? ⟨w.heap.size, 2, none⟩ = some (.slice A1 N1 c1) ∧ V.cell? ⟨w.heap.size, 3, none⟩ = some (.int .i64 s) ∧ V.cell? ⟨w.heap.size + 1, 0, none⟩ = some (.int .i64 k) ∧ V.cell? ⟨w.heap.size + 1, 1, none⟩ = some (.int .i64 v) ∧ V.cell? ⟨w.heap.size + 1, 2, none⟩ = some (.slice A2 N2 c2) ∧ V.cell? ⟨w.heap.size + 1, 3, none⟩ = some (.int .i64 s') from ⟨(x1.below b (by omega)).cells 0, (x1.below b (by omega)).cells 1, (x1.below b (by omega)).cells 2, (x1.below b (by omega)).cells 3, (x2.below b (by omega)).cells 0, (x2.below b (by omega)).cells 1, (x2.below b (by omega)).cells 2, (x2.below b (by omega)).cells 3⟩))
   clear x1 x2 b1 l1
   have cA' := hid (fun (W : World) (b : Below w1.heap.size w1 W) => cA.out W (B1.out.trans (b.mono B1.out.size)))
   have cB' := hid (fun (W : World) (b : Below w1.heap.size w1 W) => cB.out W (B1.out.trans (b.mono B1.out.size)))
   clear cA cB
   go_wp2_with fail
   have S0 : (fun V => V.cell? ⟨w.heap.size, 0, none⟩ = some (.int .i64 k) ∧ V.cell? ⟨w.heap.size, 1, none⟩ = some (.int .i64 v) ∧ V.cell? ⟨w.heap.size, 2, none⟩ = some (.slice A1 N1 c1) ∧ V.cell? ⟨w.heap.size, 3, none⟩ = some (.int .i64 s) ∧ V.cell? ⟨w.heap.size + 1, 0, none⟩ = some (.int .i64 k) ∧ V.cell? ⟨w.heap.size + 1, 1, none⟩ = some (.int .i64 v) ∧ V.cell? ⟨w.heap.size + 1, 2, none⟩ = some (.slice A2 N2 c2) ∧ V.cell? ⟨w.heap.size + 1, 3, none⟩ = some (.int .i64 s')) w1.drew := ⟨y0, y1, y2, y3, u0, u1, u2, u3⟩
   refine Last2.region_last [] (fun V => V.cell? ⟨w.heap.size, 0, none⟩ = some (.int .i64 k) ∧ V.cell? ⟨w.heap.size, 1, none⟩ = some (.int .i64 v) ∧ V.cell? ⟨w.heap.size, 2, none⟩ = some (.slice A1 N1 c1) ∧ V.cell? ⟨w.heap.size, 3, none⟩ = some (.int .i64 s) ∧ V.cell? ⟨w.heap.size + 1, 0, none⟩ = some (.int .i64 k) ∧ V.cell? ⟨w.heap.size + 1, 1, none⟩ = some (.int .i64 v) ∧ V.cell? ⟨w.heap.size + 1, 2, none⟩ = some (.slice A2 N2 c2) ∧ V.cell? ⟨w.heap.size + 1, 3, none⟩ = some (.int .i64 s')) (by kernel_rfl) ?_
   refine tk 0 5 (.pointer (some ⟨w.heap.size, 0, none⟩)) S0 ?_
   simp only [Act.put, Last2.s]
   refine tk 1 6 (.int .i64 k) S0 ?_
   simp only [Act.put, Last2.s]
   refine tk 2 7 (.pointer (some ⟨w.heap.size + 1, 0, none⟩)) S0 ?_
   simp only [Act.put, Last2.s]
   refine tk 3 8 (.int .i64 k) S0 ?_
   simp only [Act.put, Last2.s]
   refine tk 4 9 (.bool true) S0 ?_
   simp only [Act.put, Last2.s]
   refine tk 5 10 (.bool true) S0 ?_
   simp only [Act.put, Last2.s]
   refine tk 6 11 (.pointer (some ⟨w.heap.size, 1, none⟩)) S0 ?_
   simp only [Act.put, Last2.s]
   refine tk 7 12 (.int .i64 v) S0 ?_
   simp only [Act.put, Last2.s]
   refine tk 8 13 (.pointer (some ⟨w.heap.size + 1, 1, none⟩)) S0 ?_
   simp only [Act.put, Last2.s]
   refine tk 9 14 (.int .i64 v) S0 ?_
   simp only [Act.put, Last2.s]
   refine tk 10 15 (.bool true) S0 ?_
   simp only [Act.put, Last2.s]
   refine tk 11 16 (.bool true) S0 ?_
   simp only [Act.put, Last2.s]
   refine tk 12 17 (.bool true) S0 ?_
   simp only [Act.put, Last2.s]
   refine tk 13 18 (.agg #[.int .i64 k, .int .i64 v, .slice A1 N1 c1, .int .i64 s]) S0 ?_
   simp only [Act.put, Last2.s]
   refine tk 15 20 (.agg #[.int .i64 k, .int .i64 v, .slice A2 N2 c2, .int .i64 s']) S0 ?_
   simp only [Act.put, Last2.s]
   refine Last2.last_one (i := 14) (o := { dst := some 19, op := .call { callee := .value (.func 42), args := #[.tmp 18], argTypes := #[77] }, type := _, pos := _, after := _, guard := _ }) (by kernel_rfl) rfl rfl (fun K hK => ?_)
   go_simp
   refine (cA'.out w1.drew (Below.refl _ _).drew).mono ?_
   rintro e wa ⟨Aa, ca, rfl, oa, ba⟩
   have ta : Below w1.heap.size w1 wa := (Below.refl _ _).drew.trans ba
   refine hK.out _ _ (fun _ => hX.out wa ta) ?_
   clear hK K
   try simp only [Act.put, Last2.s]
   refine Last2.last_one (i := 16) (o := { dst := some 21, op := .call { callee := .value (.func 42), args := #[.tmp 20], argTypes := #[77] }, type := _, pos := _, after := _, guard := _ }) (by kernel_rfl) rfl rfl (fun K hK => ?_)
   go_simp
   refine (cB'.out wa ta).mono ?_
   rintro e wb ⟨Ab, cb, rfl, ob, bb⟩
   have tb : Below w1.heap.size w1 wb := ta.trans (bb.mono ta.size)
   refine hK.out _ _ (fun _ => hX.out wb tb) ?_
   clear hK K
   try simp only [Act.put, Last2.s]
   refine Last2.last_one (i := 17) (o := { dst := some 22, op := .call { callee := .value (.func 66), args := #[.tmp 19, .tmp 21], argTypes := #[38, 38] }, type := _, pos := _, after := _, guard := _ }) (by kernel_rfl) rfl rfl (fun K hK => ?_)
   go_simp
   refine (cS.out wb _ _ _ _ ((OwnI.rd oa rfl).below bb |>.more bb.size) (OwnI.rd ob rfl)).mono ?_
   rintro e wc ⟨rfl, bc⟩
   have tc : Below w1.heap.size w1 wc := tb.trans (bc.mono tb.size)
   refine hK.out _ _ (fun _ => hX.out wc tc) ?_
   clear hK K
   try simp only [Act.put, Last2.s]
   have S1 := hX.out wc tc
   refine Last2.last_take (i := 18) (d := some 23) (v := .bool (decide (x1s = x2s))) rfl rfl (by kernel_rfl) (by kernel_rfl) (by kernel_rfl) (fun _ _ _ h => h) rfl (by kernel_rfl) (by kernel_rfl) rfl ?_ S1 ?_
   ·(intro V hV; (try dsimp only at hV); go_simp; try with_reducible rfl)
   simp only [Act.put, Last2.s]
   refine Last2.last_take (i := 19) (d := some 4) (v := .bool (decide (x1s = x2s))) rfl rfl (by kernel_rfl) (by kernel_rfl) (by kernel_rfl) (fun _ _ _ h => h) rfl (by kernel_rfl) (by kernel_rfl) rfl ?_ S1 ?_
   ·(intro V hV; (try dsimp only at hV); go_simp; try with_reducible rfl)
   simp only [Act.put, Last2.s]
   refine Last2.last_done (by kernel_rfl) ?_ _
   have TC := hid tc
   clear ta tb tc ba bb bc oa ob cA' cB' cS hX y0 y1 y2 y3 u0 u1 u2 u3 S0 S1
   go_wp2_with fail
   go_ret
   exact ⟨by rw [hr.out] <;> rfl, B1.out.trans (TC.out.mono B1.out.size)⟩
  ·subst hk
   have hr := hid (show (k == k && v == v' && decide (saids t1 = saids t2)) = false by simp [hv])
   have hc : (v == v') = false := by simpa using hv
   clear r1 r2 hv
   go_enter Try.func48, Try.ntmps48
   go_upto_region 1 with fail
   change (fun V => Code.wp _ _ _ _ V) _
   refine gen_world (X := fun V => Blk V w.heap.size 77 #[.int .i64 k, .int .i64 v, .slice A1 N1 c1, .int .i64 s] ∧ Blk V (w.heap.size + 1) 77 #[.int .i64 k, .int .i64 v', .slice A2 N2 c2, .int .i64 s'] ∧ Below w.heap.size w V ∧ w.heap.size + 1 < V.heap.size) ⟨heap2_0 w _ _, heap2_1 w _ _, App.Bl.alloc (App.Bl.alloc (App.Bl.refl _) _) _, by simp⟩ ?_
   rintro w1 ⟨x1, x2, b1, l1⟩
   have B1 := hid b1
   have y0 := x1.cells 0
   have y1 := x1.cells 1
   have y2 := x1.cells 2
   have y3 := x1.cells 3
   have u0 := x2.cells 0
   have u1 := x2.cells 1
   have u2 := x2.cells 2
   have u3 := x2.cells 3
   clear x1 x2 b1 l1
   go_wp2_with fail
   go_quiet (fail)
   go_wp2_with fail
   go_ret
   exact ⟨by rw [hr.out] <;> rfl, below_drewN B1.out _⟩
 ·have hc : (k == k') = false := by simpa using hk
  have hr := hid (show (k == k' && v == v' && decide (saids t1 = saids t2)) = false by rw [hc]; simp)
  clear r1 r2 hk
  go_enter Try.func48, Try.ntmps48
  go_upto_region 1 with fail
  change (fun V => Code.wp _ _ _ _ V) _
  refine gen_world (X := fun V => Blk V w.heap.size 77 #[.int .i64 k, .int .i64 v, .slice A1 N1 c1, .int .i64 s] ∧ Blk V (w.heap.size + 1) 77 #[.int .i64 k', .int .i64 v', .slice A2 N2 c2, .int .i64 s'] ∧ Below w.heap.size w V ∧ w.heap.size + 1 < V.heap.size) ⟨heap2_0 w _ _, heap2_1 w _ _, App.Bl.alloc (App.Bl.alloc (App.Bl.refl _) _) _, by simp⟩ ?_
  rintro w1 ⟨x1, x2, b1, l1⟩
  have B1 := hid b1
  have y0 := x1.cells 0
  have y1 := x1.cells 1
  have y2 := x1.cells 2
  have y3 := x1.cells 3
  have u0 := x2.cells 0
  have u1 := x2.cells 1
  have u2 := x2.cells 2
  have u3 := x2.cells 3
  clear x1 x2 b1 l1
  go_wp2_with fail
  go_quiet (fail)
  go_wp2_with fail
  go_ret
  exact ⟨by rw [hr.out] <;> rfl, below_drewN B1.out _⟩
set_option maxRecDepth 100000 in
set_option maxHeartbeats 8000000 in
theorem alikeI_any (B N1 N2 c1 c2 : Nat) (A1 A2 : Option Addr) (t1 t2 : List Tr) (k v s k' v' s' : Int) (h1 : t1.length = N1) (h2 : t2.length = N2) (hn1 : N1 ≤ 100000) (hn2 : N2 ≤ 100000) (w : World) (r1 : Rd3 w B A1 t1) (r2 : Rd3 w B A2 t2) (hB : B ≤ w.heap.size) :
  Calls Try.prog 52 #[.agg #[.int .i64 k, .int .i64 v, .slice A1 N1 c1, .int .i64 s], .agg #[.int .i64 k', .int .i64 v', .slice A2 N2 c2, .int .i64 s']] w fun e w' => e = .returned (.bool (k == k' && v == v' && decide (saids t1 = saids t2))) ∧ Below w.heap.size w w' := by
 by_cases hk : k = k'
 ·by_cases hv : v = v'
  ·subst hk
   subst hv
   have hr := hid (show (k == k && v == v && decide (saids t1 = saids t2)) = decide (saids t1 = saids t2) by simp)
   have cA := hid (fun (W : World) (b : Below w.heap.size w W) => saidIn_any B N1 c1 A1 t1 h1 hn1 W (r1.below (b.mono hB)) (Nat.le_trans hB b.size))
   have cB := hid (fun (W : World) (b : Below w.heap.size w W) => saidIn_any B N2 c2 A2 t2 h2 hn2 W (r2.below (b.mono hB)) (Nat.le_trans hB b.size))
   have cS := hid (fun (W : World) (A A' : Option Addr) (c c' : Nat) (q1 : RdI W W.heap.size A (saids t1)) (q2 : RdI W W.heap.size A' (saids t2)) => equal_any (saids t1).length (saids t2).length c c' A A' (saids t1) (saids t2) (Nat.le_trans (saids_len t1) (by omega)) (Nat.le_trans (saids_len t2) (by omega)) rfl rfl W.heap.size W (Nat.le_refl _) q1 q2)
   generalize saids t1 = x1s at *
   generalize saids t2 = x2s at *
   clear r1 r2 h1 h2
   go_enter Try.func52, Try.ntmps52
   go_upto_region 1 with fail
   change (fun V => Code.wp _ _ _ _ V) _
   refine gen_world (X := fun V => Blk V w.heap.size 77 #[.int .i64 k, .int .i64 v, .slice A1 N1 c1, .int .i64 s] ∧ Blk V (w.heap.size + 1) 77 #[.int .i64 k, .int .i64 v, .slice A2 N2 c2, .int .i64 s'] ∧ Below w.heap.size w V ∧ w.heap.size + 1 < V.heap.size) ⟨heap2_0 w _ _, heap2_1 w _ _, App.Bl.alloc (App.Bl.alloc (App.Bl.refl _) _) _, by simp⟩ ?_
   rintro w1 ⟨x1, x2, b1, l1⟩
   have B1 := hid b1
   have y0 := x1.cells 0
   have y1 := x1.cells 1
   have y2 := x1.cells 2
   have y3 := x1.cells 3
   have u0 := x2.cells 0
   have u1 := x2.cells 1
   have u2 := x2.cells 2
   have u3 := x2.cells 3
   have hX := hid (fun (V : World) (b : Below w1.heap.size w1 V) => (show V.cell? ⟨w.heap.size, 0, none⟩ = some (.int .i64 k) ∧ V.cell? ⟨w.heap.size, 1, none⟩ = some (.int .i64 v) ∧ V.cell? ⟨w.heap.size, 2, none⟩ = some (.slice A1 N1 c1) ∧ V.cell? ⟨w.heap.size, 3, none⟩ = some (.int .i64 s) ∧ V.cell? ⟨w.heap.size + 1, 0, none⟩ = some (.int .i64 k) ∧ V.cell? ⟨w.heap.size + 1, 1, none⟩ = some (.int .i64 v) ∧ V.cell? ⟨w.heap.size + 1, 2, none⟩ = some (.slice A2 N2 c2) ∧ V.cell? ⟨w.heap.size + 1, 3, none⟩ = some (.int .i64 s') from ⟨(x1.below b (by omega)).cells 0, (x1.below b (by omega)).cells 1, (x1.below b (by omega)).cells 2, (x1.below b (by omega)).cells 3, (x2.below b (by omega)).cells 0, (x2.below b (by omega)).cells 1, (x2.below b (by omega)).cells 2, (x2.below b (by omega)).cells 3⟩))
   clear x1 x2 b1 l1
   have cA' := hid (fun (W : World) (b : Below w1.heap.size w1 W) => cA.out W (B1.out.trans (b.mono B1.out.size)))
   have cB' := hid (fun (W : World) (b : Below w1.heap.size w1 W) => cB.out W (B1.out.trans (b.mono B1.out.size)))
   clear cA cB
   go_wp2_with fail
   have S0 : (fun V => V.cell? ⟨w.heap.size, 0, none⟩ = some (.int .i64 k) ∧ V.cell? ⟨w.heap.size, 1, none⟩ = some (.int .i64 v) ∧ V.cell? ⟨w.heap.size, 2, none⟩ = some (.slice A1 N1 c1) ∧ V.cell? ⟨w.heap.size, 3, none⟩ = some (.int .i64 s) ∧ V.cell? ⟨w.heap.size + 1, 0, none⟩ = some (.int .i64 k) ∧ V.cell? ⟨w.heap.size + 1, 1, none⟩ = some (.int .i64 v) ∧ V.cell? ⟨w.heap.size + 1, 2, none⟩ = some (.slice A2 N2 c2) ∧ V.cell? ⟨w.heap.size + 1, 3, none⟩ = some (.int .i64 s')) w1.drew := ⟨y0, y1, y2, y3, u0, u1, u2, u3⟩
   refine Last2.region_last [] (fun V => V.cell? ⟨w.heap.size, 0, none⟩ = some (.int .i64 k) ∧ V.cell? ⟨w.heap.size, 1, none⟩ = some (.int .i64 v) ∧ V.cell? ⟨w.heap.size, 2, none⟩ = some (.slice A1 N1 c1) ∧ V.cell? ⟨w.heap.size, 3, none⟩ = some (.int .i64 s) ∧ V.cell? ⟨w.heap.size + 1, 0, none⟩ = some (.int .i64 k) ∧ V.cell? ⟨w.heap.size + 1, 1, none⟩ = some (.int .i64 v) ∧ V.cell? ⟨w.heap.size + 1, 2, none⟩ = some (.slice A2 N2 c2) ∧ V.cell? ⟨w.heap.size + 1, 3, none⟩ = some (.int .i64 s')) (by kernel_rfl) ?_
   refine tk 0 5 (.pointer (some ⟨w.heap.size, 0, none⟩)) S0 ?_
   simp only [Act.put, Last2.s]
   refine tk 1 6 (.int .i64 k) S0 ?_
   simp only [Act.put, Last2.s]
   refine tk 2 7 (.pointer (some ⟨w.heap.size, 1, none⟩)) S0 ?_
   simp only [Act.put, Last2.s]
   refine tk 3 8 (.int .i64 v) S0 ?_
   simp only [Act.put, Last2.s]
   refine tk 4 9 (.agg #[.int .i64 k, .int .i64 v]) S0 ?_
   simp only [Act.put, Last2.s]
   refine tk 5 10 (.pointer (some ⟨w.heap.size + 1, 0, none⟩)) S0 ?_
   simp only [Act.put, Last2.s]
   refine tk 6 11 (.int .i64 k) S0 ?_
   simp only [Act.put, Last2.s]
   refine tk 7 12 (.pointer (some ⟨w.heap.size + 1, 1, none⟩)) S0 ?_
   simp only [Act.put, Last2.s]
   refine tk 8 13 (.int .i64 v) S0 ?_
   simp only [Act.put, Last2.s]
   refine tk 9 14 (.agg #[.int .i64 k, .int .i64 v]) S0 ?_
   simp only [Act.put, Last2.s]
   refine tk 10 15 (.bool true) S0 ?_
   simp only [Act.put, Last2.s]
   refine tk 11 16 (.bool true) S0 ?_
   simp only [Act.put, Last2.s]
   refine tk 12 17 (.pointer (some ⟨w.heap.size, 2, none⟩)) S0 ?_
   simp only [Act.put, Last2.s]
   refine tk 13 18 (.slice A1 N1 c1) S0 ?_
   simp only [Act.put, Last2.s]
   refine tk 15 20 (.pointer (some ⟨w.heap.size + 1, 2, none⟩)) S0 ?_
   simp only [Act.put, Last2.s]
   refine tk 16 21 (.slice A2 N2 c2) S0 ?_
   simp only [Act.put, Last2.s]
   refine Last2.last_one (i := 14) (o := { dst := some 19, op := .call { callee := .value (.func 45), args := #[.tmp 18], argTypes := #[75] }, type := _, pos := _, after := _, guard := _ }) (by kernel_rfl) rfl rfl (fun K hK => ?_)
   go_simp
   refine (cA'.out w1.drew (Below.refl _ _).drew).mono ?_
   rintro e wa ⟨Aa, ca, rfl, oa, ba⟩
   have ta : Below w1.heap.size w1 wa := (Below.refl _ _).drew.trans ba
   refine hK.out _ _ (fun _ => hX.out wa ta) ?_
   clear hK K
   try simp only [Act.put, Last2.s]
   refine Last2.last_one (i := 17) (o := { dst := some 22, op := .call { callee := .value (.func 45), args := #[.tmp 21], argTypes := #[75] }, type := _, pos := _, after := _, guard := _ }) (by kernel_rfl) rfl rfl (fun K hK => ?_)
   go_simp
   refine (cB'.out wa ta).mono ?_
   rintro e wb ⟨Ab, cb, rfl, ob, bb⟩
   have tb : Below w1.heap.size w1 wb := ta.trans (bb.mono ta.size)
   refine hK.out _ _ (fun _ => hX.out wb tb) ?_
   clear hK K
   try simp only [Act.put, Last2.s]
   refine Last2.last_one (i := 18) (o := { dst := some 23, op := .call { callee := .value (.func 70), args := #[.tmp 19, .tmp 22], argTypes := #[38, 38] }, type := _, pos := _, after := _, guard := _ }) (by kernel_rfl) rfl rfl (fun K hK => ?_)
   go_simp
   refine (cS.out wb _ _ _ _ ((OwnI.rd oa rfl).below bb |>.more bb.size) (OwnI.rd ob rfl)).mono ?_
   rintro e wc ⟨rfl, bc⟩
   have tc : Below w1.heap.size w1 wc := tb.trans (bc.mono tb.size)
   refine hK.out _ _ (fun _ => hX.out wc tc) ?_
   clear hK K
   try simp only [Act.put, Last2.s]
   have S1 := hX.out wc tc
   refine Last2.last_take (i := 19) (d := some 24) (v := .bool (decide (x1s = x2s))) rfl rfl (by kernel_rfl) (by kernel_rfl) (by kernel_rfl) (fun _ _ _ h => h) rfl (by kernel_rfl) (by kernel_rfl) rfl ?_ S1 ?_
   ·(intro V hV; (try dsimp only at hV); go_simp; try with_reducible rfl)
   simp only [Act.put, Last2.s]
   refine Last2.last_take (i := 20) (d := some 4) (v := .bool (decide (x1s = x2s))) rfl rfl (by kernel_rfl) (by kernel_rfl) (by kernel_rfl) (fun _ _ _ h => h) rfl (by kernel_rfl) (by kernel_rfl) rfl ?_ S1 ?_
   ·(intro V hV; (try dsimp only at hV); go_simp; try with_reducible rfl)
   simp only [Act.put, Last2.s]
   refine Last2.last_done (by kernel_rfl) ?_ _
   have TC := hid tc
   clear ta tb tc ba bb bc oa ob cA' cB' cS hX y0 y1 y2 y3 u0 u1 u2 u3 S0 S1
   go_wp2_with fail
   go_ret
   exact ⟨by rw [hr.out] <;> rfl, B1.out.trans (TC.out.mono B1.out.size)⟩
  ·subst hk
   have hr := hid (show (k == k && v == v' && decide (saids t1 = saids t2)) = false by simp [hv])
   have hc : (v == v') = false := by simpa using hv
   clear r1 r2 hv
   go_enter Try.func52, Try.ntmps52
   go_upto_region 1 with fail
   change (fun V => Code.wp _ _ _ _ V) _
   refine gen_world (X := fun V => Blk V w.heap.size 77 #[.int .i64 k, .int .i64 v, .slice A1 N1 c1, .int .i64 s] ∧ Blk V (w.heap.size + 1) 77 #[.int .i64 k, .int .i64 v', .slice A2 N2 c2, .int .i64 s'] ∧ Below w.heap.size w V ∧ w.heap.size + 1 < V.heap.size) ⟨heap2_0 w _ _, heap2_1 w _ _, App.Bl.alloc (App.Bl.alloc (App.Bl.refl _) _) _, by simp⟩ ?_
   rintro w1 ⟨x1, x2, b1, l1⟩
   have B1 := hid b1
   have y0 := x1.cells 0
   have y1 := x1.cells 1
   have y2 := x1.cells 2
   have y3 := x1.cells 3
   have u0 := x2.cells 0
   have u1 := x2.cells 1
   have u2 := x2.cells 2
   have u3 := x2.cells 3
   clear x1 x2 b1 l1
   go_wp2_with fail
   go_quiet (fail)
   go_wp2_with fail
   go_ret
   exact ⟨by rw [hr.out] <;> rfl, below_drewN B1.out _⟩
 ·have hc : (k == k') = false := by simpa using hk
  have hr := hid (show (k == k' && v == v' && decide (saids t1 = saids t2)) = false by rw [hc]; simp)
  clear r1 r2 hk
  go_enter Try.func52, Try.ntmps52
  go_upto_region 1 with fail
  change (fun V => Code.wp _ _ _ _ V) _
  refine gen_world (X := fun V => Blk V w.heap.size 77 #[.int .i64 k, .int .i64 v, .slice A1 N1 c1, .int .i64 s] ∧ Blk V (w.heap.size + 1) 77 #[.int .i64 k', .int .i64 v', .slice A2 N2 c2, .int .i64 s'] ∧ Below w.heap.size w V ∧ w.heap.size + 1 < V.heap.size) ⟨heap2_0 w _ _, heap2_1 w _ _, App.Bl.alloc (App.Bl.alloc (App.Bl.refl _) _) _, by simp⟩ ?_
  rintro w1 ⟨x1, x2, b1, l1⟩
  have B1 := hid b1
  have y0 := x1.cells 0
  have y1 := x1.cells 1
  have y2 := x1.cells 2
  have y3 := x1.cells 3
  have u0 := x2.cells 0
  have u1 := x2.cells 1
  have u2 := x2.cells 2
  have u3 := x2.cells 3
  clear x1 x2 b1 l1
  go_wp2_with fail
  go_quiet (fail)
  go_wp2_with fail
  go_ret
  exact ⟨by rw [hr.out] <;> rfl, below_drewN B1.out _⟩
end Go.Proofs.Ytdmcgkcpclepfab.Srp
-- squeezed
