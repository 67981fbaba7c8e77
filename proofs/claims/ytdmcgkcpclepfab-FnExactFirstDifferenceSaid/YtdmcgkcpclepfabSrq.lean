import Derived.Test.YtdmcgkcpclepfabSrp
import Derived.Test.YtdmcgkcpclepfabM12
import Derived.Test.YtdmcgkcpclepfabM3
set_option linter.all false
namespace Go.Proofs.Ytdmcgkcpclepfab.Srq
open Lib (hid)
open Go.ChangeShapes Go.WideShapes Go.ChangeAt Go.RowKit
open PL Mem Srun Sst To OwnS AskP Res StpS PrgS Swhole Sout Irp RunF IntsP LawI PArgP SaysP Sme Srp
def fdGo (p p' : Pg) (f low fuel : Int) : Nat → Nat → Int × Bool
 | 0, _ => (0, false)
 | l + 1, q => if alikeO (run p fuel f (low + q)) (run p' fuel f (low + q)) = true then fdGo p p' f low fuel l (q + 1) else (low + q, true)
theorem fdGo_yes {p p' : Pg} {f low fuel : Int} {l q : Nat} (h : alikeO (run p fuel f (low + q)) (run p' fuel f (low + q)) = true) : fdGo p p' f low fuel (l + 1) q = fdGo p p' f low fuel l (q + 1) := by rw [fdGo, if_pos h]
theorem fdGo_no {p p' : Pg} {f low fuel : Int} {l q : Nat} (h : alikeO (run p fuel f (low + q)) (run p' fuel f (low + q)) = false) : fdGo p p' f low fuel (l + 1) q = (low + q, true) := by rw [fdGo, if_neg (by rw [h]; decide)]
theorem fdGo_le (p p' : Pg) (f low fuel : Int) : ∀ (l q : Nat), (fdGo p p' f low fuel l q).2 = true → (fdGo p p' f low fuel l q).1 < low + q + l
 | 0, q, h => by cases h
 | l + 1, q, h => by
  cases ha : alikeO (run p fuel f (low + q)) (run p' fuel f (low + q)) with
  | true =>
   rw [fdGo_yes ha] at h ⊢
   have := fdGo_le p p' f low fuel l (q + 1) h
   omega
  | false =>
   rw [fdGo_no ha]
   show low + (q : Int) < _
   omega
theorem fdGo_zero (p p' : Pg) (f low fuel : Int) : ∀ (l q : Nat), (fdGo p p' f low fuel l q).2 = false → (fdGo p p' f low fuel l q).1 = 0
 | 0, q, h => rfl
 | l + 1, q, h => by
  cases ha : alikeO (run p fuel f (low + q)) (run p' fuel f (low + q)) with
  | true =>
   rw [fdGo_yes ha] at h ⊢
   exact fdGo_zero p p' f low fuel l (q + 1) h
  | false =>
   rw [fdGo_no ha] at h
   cases h
theorem runR_yes {p : Pg} {f arg fuel : Int} (h : asks p f arg fuel = true) : runR p f arg fuel = (run p fuel f arg, true) := by unfold runR; rw [if_pos h]
def bothOk (p p' : Pg) (f low high fuel : Int) : Bool := rangeOk p f low high fuel && asks p' f low fuel
theorem both_eq (p p' : Pg) (f low high fuel : Int) : bothOk p p' f low high fuel = (rangeOk p f low high fuel && rangeOk p' f low high fuel) := by
 unfold bothOk rangeOk
 cases asks p f low fuel <;> cases asks p' f low fuel <;> cases (isNum high && btw (high - low) 0 100) <;> rfl
def fdAll (p p' : Pg) (f low high fuel : Int) : Int × Bool := fdGo p p' f low fuel (high - low + 1).toNat 0
def sameR (p p' : Pg) (f low high fuel : Int) : Bool × Bool := if bothOk p p' f low high fuel = true then (!(fdAll p p' f low high fuel).2, true) else (false, false)
def fdR (p p' : Pg) (f low high fuel : Int) : Int × Bool := if bothOk p p' f low high fuel = true then fdAll p p' f low high fuel else (0, false)
def leastR (p p' : Pg) (f low high fuel : Int) : Int × Bool := if bothOk p p' f low high fuel = true then (if (fdAll p p' f low high fuel).2 = true then (fdAll p p' f low high fuel).1 else high + 1, true) else (0, false)
theorem trace_len {p : Pg} {f arg fuel : Int} (h : asks p f arg fuel = true) : (run p fuel f arg).trace.length ≤ 100000 := by
 have := runR_len p f arg fuel
 rwa [show runR p f arg fuel = (run p fuel f arg, true) by unfold runR; rw [if_pos h]] at this
theorem l9Both_any (lo lo' n n' c c' : Nat) (A A' : Option Addr) (p p' : Pg) (f low high fuel : Int) (hn : n ≤ 9223372036854775807) (hl : p.length = n) (hsm : Small p 9223372036854775807) (hn' : n' ≤ 9223372036854775807) (hl' : p'.length = n') (hsm' : Small p' 9223372036854775807) (w : World) (ho : OwnP w lo (.slice A n c) p) (ho' : OwnP w lo' (.slice A' n' c') p') :
  Calls Try.prog 30 #[.agg #[.slice A n c], .agg #[.slice A' n' c'], .int .i64 f, .int .i64 low, .int .i64 high, .int .i64 fuel] w fun e w' => e = .returned (.bool (bothOk p p' f low high fuel)) ∧ Below w.heap.size w w' := by
 have hq := hid (fun W (h : Below w.heap.size w W) => l7Range_any w.heap.size A n c p f low high fuel hn hl hsm W (ho.rd.below h) h.size)
 have hq' := hid (fun W (h : Below w.heap.size w W) => l2Ask_any w.heap.size A' n' c' p' f low fuel hn' hl' hsm' W (ho'.rd.below h) h.size)
 have hr0 : bothOk p p' f low high fuel = (rangeOk p f low high fuel && asks p' f low fuel) := rfl
 clear ho ho' hsm hsm'
 cases ha : rangeOk p f low high fuel with
 | false =>
  rw [ha] at hq hr0
  have hr := hid (hr0.trans (by rfl))
  clear ha hr0 hq'
  go_enter Try.func30, Try.ntmps30
  go_wp2_with fail
  refine (hq.out _ (App.Bl.alloc (App.Bl.alloc (App.Bl.refl _) _) _)).mono ?_
  rintro e w1 ⟨rfl, b1⟩
  have B1 := hid ((App.Bl.alloc (App.Bl.alloc (App.Bl.refl w) _) _).trans (b1.mono (by simp; omega)))
  clear b1
  go_wp2_with fail
  go_ret
  exact ⟨by rw [hr.out] <;> rfl, B1.out⟩
 | true =>
  rw [ha, Bool.true_and] at hr0
  rw [ha] at hq
  have hr := hid hr0
  clear ha hr0
  go_enter Try.func30, Try.ntmps30
  go_upto_region 1 with fail
  change (fun V => Code.wp _ _ _ _ V) _
  refine gen_world (X := fun V => Blk V w.heap.size 30 #[.slice A n c] ∧ Blk V (w.heap.size + 1) 30 #[.slice A' n' c'] ∧ Below w.heap.size w V) ⟨heap2_0 w _ _, heap2_1 w _ _, App.Bl.alloc (App.Bl.alloc (App.Bl.refl _) _) _⟩ ?_
  rintro w1 ⟨x1, x2, b1⟩
  have z1 : w1.cell? ⟨w.heap.size, 0, none⟩ = some (.slice A n c) := x1.cells 0
  have X2 := hid x2
  have B1 := hid b1
  clear x1 x2 b1
  go_wp2_with fail
  refine (hq.out _ B1.out).mono ?_
  rintro e w2 ⟨rfl, b2⟩
  have B2 := hid (B1.out.trans (b2.mono B1.out.size))
  have z2 : w2.cell? ⟨w.heap.size + 1, 0, none⟩ = some (.slice A' n' c') := (X2.out.below b2 X2.out.lt).cells 0
  clear b2 z1
  go_wp2_with fail
  refine (hq'.out _ B2.out).mono ?_
  rintro e w3 ⟨rfl, b3⟩
  have B3 := hid (B2.out.trans (b3.mono B2.out.size))
  clear b3 z2
  go_wp2_with fail
  go_ret
  exact ⟨by rw [hr.out] <;> rfl, B3.out⟩
set_option maxRecDepth 100000 in
set_option maxHeartbeats 8000000 in
theorem l9First_any (lo lo' n n' c c' : Nat) (A A' : Option Addr) (p p' : Pg) (f low high fuel : Int) (hn : n ≤ 9223372036854775807) (hl : p.length = n) (hsm : Small p 9223372036854775807) (hn' : n' ≤ 9223372036854775807) (hl' : p'.length = n') (hsm' : Small p' 9223372036854775807) (w : World) (ho : OwnP w lo (.slice A n c) p) (ho' : OwnP w lo' (.slice A' n' c') p') (hok : bothOk p p' f low high fuel = true) :
  Calls Try.prog 31 #[.agg #[.slice A n c], .agg #[.slice A' n' c'], .int .i64 f, .int .i64 low, .int .i64 high, .int .i64 fuel] w fun e w' => e = .returned (.tuple #[.int .i64 (fdAll p p' f low high fuel).1, .bool (fdAll p p' f low high fuel).2]) ∧ Below w.heap.size w w' := by
 have hok2 := hok
 rw [both_eq, Bool.and_eq_true] at hok2
 obtain ⟨hr1, hr2⟩ := hok2
 obtain ⟨h1, h2, h3, h4, h5⟩ := range_num hr1
 have h1' := (range_num hr2).1
 have hn6 := okProg_small (start_wf (n := n) h1).1
 have hn6' := okProg_small (start_wf (n := n') h1').1
 have hru := hid (fun (q : Nat) (hq : low + q ≤ high) W (h : Below w.heap.size w W) => (l2Run_any lo n c A p f (low + q) fuel hl (hn6.2.mono (by omega)) (by omega) (range_mid hr1 hq) W (ho.below h)).mono (fun e w' h' => show ∃ Aa ca, e = Ending.returned (.agg #[.int .i64 (run p fuel f (low + q)).kind, .int .i64 (run p fuel f (low + q)).value, .slice Aa (run p fuel f (low + q)).trace.length ca, .int .i64 (run p fuel f (low + q)).spent]) ∧ Tre w' W.heap.size (.slice Aa (run p fuel f (low + q)).trace.length ca) (run p fuel f (low + q)).trace ∧ Below W.heap.size W w' from h'))
 have hru' := hid (fun (q : Nat) (hq : low + q ≤ high) W (h : Below w.heap.size w W) => (l2Run_any lo' n' c' A' p' f (low + q) fuel hl' (hn6'.2.mono (by omega)) (by omega) (range_mid hr2 hq) W (ho'.below h)).mono (fun e w' h' => show ∃ Aa ca, e = Ending.returned (.agg #[.int .i64 (run p' fuel f (low + q)).kind, .int .i64 (run p' fuel f (low + q)).value, .slice Aa (run p' fuel f (low + q)).trace.length ca, .int .i64 (run p' fuel f (low + q)).spent]) ∧ Tre w' W.heap.size (.slice Aa (run p' fuel f (low + q)).trace.length ca) (run p' fuel f (low + q)).trace ∧ Below W.heap.size W w' from h'))
 have HLEN := hid (fun (q : Nat) (hq : low + q ≤ high) => (show (run p fuel f (low + q)).trace.length ≤ 100000 ∧ (run p' fuel f (low + q)).trace.length ≤ 100000 from ⟨trace_len (range_mid hr1 hq), trace_len (range_mid hr2 hq)⟩))
 have HYES := hid (fun (l q : Nat) h => fdGo_yes (p := p) (p' := p') (f := f) (low := low) (fuel := fuel) (l := l) (q := q) h)
 have HNO := hid (fun (l q : Nat) h => fdGo_no (p := p) (p' := p') (f := f) (low := low) (fuel := fuel) (l := l) (q := q) h)
 have hr := hid (show fdAll p p' f low high fuel = fdGo p p' f low fuel (high - low + 1).toNat 0 from rfl)
 clear ho ho' hsm hsm' h1 h1' hn6 hn6' hok hr1 hr2
 go_enter Try.func31, Try.ntmps31
 go_upto_region 1 with fail
 change (fun V => Code.wp _ _ _ _ V) _
 refine gen_world (X := fun V => Blk V w.heap.size 30 #[.slice A n c] ∧ Blk V (w.heap.size + 1) 30 #[.slice A' n' c'] ∧ Below w.heap.size w V) ⟨heap2_0 w _ _, heap2_1 w _ _, App.Bl.alloc (App.Bl.alloc (App.Bl.refl _) _) _⟩ ?_
 rintro w1 ⟨x1, x2, b1⟩
 have X1 := hid x1
 have X2 := hid x2
 have B1 := hid b1
 have l2 := x2.lt
 clear x1 x2 b1
 go_wp2_with fail
 go_loopw [14] (fun i wr => ∃ (q : Nat), low + q ≤ high + 1 ∧ i = .int .i64 (low + q) ∧ fdGo p p' f low fuel (high - low + 1).toNat 0 = fdGo p p' f low fuel (high - low + 1 - q).toNat q ∧ Below w1.heap.size w1 wr) (fun i _ => (high + 1 - intOf i).toNat)
 case atStart => exact ⟨0, by omega, by simp, by simp, Below.refl _ _⟩
 case round =>
  obtain ⟨q, hq, rfl, hgo, hb⟩ := hrel
  have hlo := hb.size
  have HB := hid hb
  have HG := hid hgo
  have hX := hid (fun (V : World) (b : Below wr.heap.size wr V) => (show V.cell? ⟨w.heap.size, 0, none⟩ = some (.slice A n c) ∧ V.cell? ⟨w.heap.size + 1, 0, none⟩ = some (.slice A' n' c') from ⟨(X1.out.below (HB.out.trans (b.mono HB.out.size)) (by omega)).cells 0, (X2.out.below (HB.out.trans (b.mono HB.out.size)) l2).cells 0⟩))
  clear hb hgo
  by_cases hlt : low + q ≤ high
  ·have HR := hid (fun (W : World) (b : Below wr.heap.size wr W) => hru.out q hlt W (B1.out.trans ((HB.out.trans (b.mono HB.out.size)).mono B1.out.size)))
   have HR' := hid (fun (W : World) (b : Below wr.heap.size wr W) => hru'.out q hlt W (B1.out.trans ((HB.out.trans (b.mono HB.out.size)).mono B1.out.size)))
   obtain ⟨l, hl''⟩ : ∃ l, (high - low + 1 - q).toNat = l + 1 := ⟨(high - low - q).toNat, by omega⟩
   have hY := HYES.out l q
   have hN := HNO.out l q
   have hg2 := HG.out
   rw [hl''] at hg2
   have HL := hid (show (high - low + 1 - ((q + 1 : Nat) : Int)).toNat = l by omega)
   have hlen := HLEN.out q hlt
   generalize run p fuel f (low + q) = r at *
   generalize run p' fuel f (low + q) = r' at *
   obtain ⟨k, v, t, s⟩ := r
   obtain ⟨k', v', t', s'⟩ := r'
   have hal : alikeO ⟨k, v, t, s⟩ ⟨k', v', t', s'⟩ = (k == k' && v == v' && decide (saids t = saids t')) := rfl
   dsimp only at hlen HR HR'
   have HLE := hid hlen
   have HY := hid hY
   have HN := hid hN
   have HG2 := hid hg2
   have HAL := hid hal
   have cS := hid (fun (W : World) (Aa Ab : Option Addr) (ca cb : Nat) (q1 : Rd3 W W.heap.size Aa t) (q2 : Rd3 W W.heap.size Ab t') => l9Alike_any W.heap.size t.length t'.length ca cb Aa Ab t t' k v s k' v' s' rfl rfl HLE.out.1 HLE.out.2 W q1 q2 (Nat.le_refl _))
   rw [← hal] at cS
   clear hY hN hg2 hl'' HG hlen hal HLEN
   generalize alikeO ⟨k, v, t, s⟩ ⟨k', v', t', s'⟩ = al at *
   obtain ⟨y0, y1⟩ := hX.out wr (Below.refl _ _)
   go_wp2_with fail
   have S0 : (fun V => V.cell? ⟨w.heap.size, 0, none⟩ = some (.slice A n c) ∧ V.cell? ⟨w.heap.size + 1, 0, none⟩ = some (.slice A' n' c')) wr.drew := ⟨y0, y1⟩
   refine Last2.region_last [] (fun V => V.cell? ⟨w.heap.size, 0, none⟩ = some (.slice A n c) ∧ V.cell? ⟨w.heap.size + 1, 0, none⟩ = some (.slice A' n' c')) (by kernel_rfl) ?_
   refine Last2.tk 0 21 (.agg #[.slice A n c]) S0 ?_
   simp only [Act.put, Last2.s]
   refine Last2.tk 1 22 (.int .i64 f) S0 ?_
   simp only [Act.put, Last2.s]
   refine Last2.tk 2 23 (.int .i64 (low + q)) S0 ?_
   simp only [Act.put, Last2.s]
   refine Last2.tk 3 24 (.int .i64 fuel) S0 ?_
   simp only [Act.put, Last2.s]
   refine Last2.tk 5 26 (.agg #[.slice A' n' c']) S0 ?_
   simp only [Act.put, Last2.s]
   refine Last2.tk 6 27 (.int .i64 f) S0 ?_
   simp only [Act.put, Last2.s]
   refine Last2.tk 7 28 (.int .i64 (low + q)) S0 ?_
   simp only [Act.put, Last2.s]
   refine Last2.tk 8 29 (.int .i64 fuel) S0 ?_
   simp only [Act.put, Last2.s]
   refine Last2.last_one (i := 4) (o := { dst := some 25, op := .call { callee := .value (.func 43), args := #[.tmp 21, .tmp 22, .tmp 23, .tmp 24], argTypes := #[30, 3, 3, 3] }, type := _, pos := _, after := _, guard := _ }) (by kernel_rfl) rfl rfl (fun K hK => ?_)
   go_simp
   refine (HR.out wr.drew (Below.refl _ _).drew).mono ?_
   rintro e wa ⟨Aa, ca, rfl, oa, ba⟩
   have ta : Below wr.heap.size wr wa := (Below.refl _ _).drew.trans ba
   refine hK.out _ _ (fun _ => hX.out wa ta) ?_
   clear hK K
   try simp only [Act.put, Last2.s]
   refine Last2.last_one (i := 9) (o := { dst := some 30, op := .call { callee := .value (.func 43), args := #[.tmp 26, .tmp 27, .tmp 28, .tmp 29], argTypes := #[30, 3, 3, 3] }, type := _, pos := _, after := _, guard := _ }) (by kernel_rfl) rfl rfl (fun K hK => ?_)
   go_simp
   refine (HR'.out wa ta).mono ?_
   rintro e wb ⟨Ab, cb, rfl, ob, bb⟩
   have tb : Below wr.heap.size wr wb := ta.trans (bb.mono ta.size)
   refine hK.out _ _ (fun _ => hX.out wb tb) ?_
   clear hK K
   try simp only [Act.put, Last2.s]
   refine Last2.last_one (i := 10) (o := { dst := some 31, op := .call { callee := .value (.func 48), args := #[.tmp 25, .tmp 30], argTypes := #[77, 77] }, type := _, pos := _, after := _, guard := _ }) (by kernel_rfl) rfl rfl (fun K hK => ?_)
   go_simp
   refine (cS.out wb _ _ _ _ ((show Rd3 wa wa.heap.size Aa t from rd_own oa).below bb |>.more bb.size) (show Rd3 wb wb.heap.size Ab t' from rd_own ob)).mono ?_
   rintro e wc ⟨rfl, bc⟩
   have tc : Below wr.heap.size wr wc := tb.trans (bc.mono tb.size)
   refine hK.out _ _ (fun _ => hX.out wc tc) ?_
   clear hK K
   try simp only [Act.put, Last2.s]
   have S1 := hX.out wc tc
   refine Last2.last_take (i := 11) (d := some 32) (v := .bool (!al)) rfl rfl (by kernel_rfl) (by kernel_rfl) (by kernel_rfl) (fun _ _ _ h => h) rfl (by kernel_rfl) (by kernel_rfl) rfl ?_ S1 ?_
   ·(intro V hV; (try dsimp only at hV); go_simp; try with_reducible rfl)
   simp only [Act.put, Last2.s]
   refine Last2.last_done (by kernel_rfl) ?_ _
   have TC := hid (HB.out.trans (tc.mono HB.out.size))
   clear ta tb tc ba bb bc oa ob HR HR' cS hX y0 y1 S0 S1
   cases al with
   | false =>
    have HX := hid (HG2.out.trans (HN.out rfl))
    clear HY HN
    go_wp2_with fail
    go_ret2
    exact ⟨by rw [hr.out, HX.out] <;> rfl, B1.out.trans (TC.out.mono B1.out.size)⟩
   | true =>
    have HX := hid (HG2.out.trans (HY.out rfl))
    clear HY HN
    go_wp2_with fail
    go_roundw
    case rel => exact ⟨q + 1, by omega, by go_num, by rw [HX.out, HL.out], TC.out⟩
    case measure => simp [intOf]; omega
  ·have hqe : (high - low + 1 - q).toNat = 0 := by omega
   have hcb : decide (low + (q : Int) ≤ high) = false := by simpa using hlt
   have HQ := hid hqe
   clear hqe hlt
   go_wp2_with fail
   go_ret2
   exact ⟨by rw [hr.out, HG.out, HQ.out] <;> rfl, B1.out.trans (HB.out.mono B1.out.size)⟩
set_option maxRecDepth 100000 in
set_option maxHeartbeats 4000000 in
theorem sameS_any (lo lo' n n' c c' : Nat) (A A' : Option Addr) (p p' : Pg) (f low high fuel : Int) (hn : n ≤ 9223372036854775807) (hl : p.length = n) (hsm : Small p 9223372036854775807) (hn' : n' ≤ 9223372036854775807) (hl' : p'.length = n') (hsm' : Small p' 9223372036854775807) (w : World) (ho : OwnP w lo (.slice A n c) p) (ho' : OwnP w lo' (.slice A' n' c') p') :
  Calls Try.prog 9 #[.agg #[.slice A n c], .agg #[.slice A' n' c'], .int .i64 f, .int .i64 low, .int .i64 high, .int .i64 fuel] w fun e w' => e = .returned (.tuple #[.bool (sameR p p' f low high fuel).1, .bool (sameR p p' f low high fuel).2]) ∧ Below w.heap.size w w' := by
 have hq := hid (fun W (h : Below w.heap.size w W) => l9Both_any lo lo' n n' c c' A A' p p' f low high fuel hn hl hsm hn' hl' hsm' W (ho.below h) (ho'.below h))
 have hr0 : sameR p p' f low high fuel = if bothOk p p' f low high fuel = true then (!(fdAll p p' f low high fuel).2, true) else (false, false) := rfl
 have h2 := hid (App.Bl.alloc (App.Bl.alloc (App.Bl.refl w) (.cells #[.slice A n c] 30)) (.cells #[.slice A' n' c'] 30))
 cases ha : bothOk p p' f low high fuel with
 | false =>
  rw [ha] at hq hr0
  have hr := hid (hr0.trans (if_neg (by decide)))
  clear ha hr0 ho ho' hsm hsm'
  go_enter Try.func9, Try.ntmps9
  go_wp2_with fail
  refine (hq.out _ h2.out).mono ?_
  rintro e w1 ⟨rfl, b1⟩
  have B1 := hid (h2.out.trans (b1.mono h2.out.size))
  clear b1
  go_wp2_with fail
  go_ret2
  exact ⟨by rw [hr.out] <;> rfl, B1.out⟩
 | true =>
  have hf := hid (fun W (h : Below w.heap.size w W) => l9First_any lo lo' n n' c c' A A' p p' f low high fuel hn hl hsm hn' hl' hsm' W (ho.below h) (ho'.below h) ha)
  rw [ha] at hq hr0
  have hr := hid (hr0.trans (if_pos rfl))
  generalize fdAll p p' f low high fuel = fd at *
  obtain ⟨z, b⟩ := fd
  clear ha hr0 ho ho' hsm hsm'
  go_enter Try.func9, Try.ntmps9
  go_upto_region 1 with fail
  change (fun V => Code.wp _ _ _ _ V) _
  refine gen_world (X := fun V => Blk V w.heap.size 30 #[.slice A n c] ∧ Blk V (w.heap.size + 1) 30 #[.slice A' n' c'] ∧ Below w.heap.size w V) ⟨heap2_0 w _ _, heap2_1 w _ _, h2.out⟩ ?_
  rintro w1 ⟨x1, x2, b1⟩
  have z1 : w1.cell? ⟨w.heap.size, 0, none⟩ = some (.slice A n c) := x1.cells 0
  have z2 : w1.cell? ⟨w.heap.size + 1, 0, none⟩ = some (.slice A' n' c') := x2.cells 0
  have X1 := hid x1
  have X2 := hid x2
  have B1 := hid b1
  clear x1 x2 b1
  go_wp2_with fail
  refine (hq.out _ B1.out).mono ?_
  rintro e w2 ⟨rfl, b2⟩
  have B2 := hid (B1.out.trans (b2.mono B1.out.size))
  have y1 : w2.cell? ⟨w.heap.size, 0, none⟩ = some (.slice A n c) := (X1.out.below b2 X1.out.lt).cells 0
  have y2 : w2.cell? ⟨w.heap.size + 1, 0, none⟩ = some (.slice A' n' c') := (X2.out.below b2 X2.out.lt).cells 0
  clear b2 z1 z2
  go_wp2_with fail
  refine (hf.out _ B2.out).mono ?_
  rintro e w3 ⟨rfl, b3⟩
  have B3 := hid (B2.out.trans (b3.mono B2.out.size))
  clear b3 y1 y2
  go_wp2_with fail
  go_ret2
  exact ⟨by rw [hr.out] <;> rfl, B3.out⟩
set_option maxRecDepth 100000 in
set_option maxHeartbeats 4000000 in
theorem fdS_any (lo lo' n n' c c' : Nat) (A A' : Option Addr) (p p' : Pg) (f low high fuel : Int) (hn : n ≤ 9223372036854775807) (hl : p.length = n) (hsm : Small p 9223372036854775807) (hn' : n' ≤ 9223372036854775807) (hl' : p'.length = n') (hsm' : Small p' 9223372036854775807) (w : World) (ho : OwnP w lo (.slice A n c) p) (ho' : OwnP w lo' (.slice A' n' c') p') :
  Calls Try.prog 13 #[.agg #[.slice A n c], .agg #[.slice A' n' c'], .int .i64 f, .int .i64 low, .int .i64 high, .int .i64 fuel] w fun e w' => e = .returned (.tuple #[.int .i64 (fdR p p' f low high fuel).1, .bool (fdR p p' f low high fuel).2]) ∧ Below w.heap.size w w' := by
 have hq := hid (fun W (h : Below w.heap.size w W) => l9Both_any lo lo' n n' c c' A A' p p' f low high fuel hn hl hsm hn' hl' hsm' W (ho.below h) (ho'.below h))
 have hr0 : fdR p p' f low high fuel = if bothOk p p' f low high fuel = true then fdAll p p' f low high fuel else (0, false) := rfl
 have h2 := hid (App.Bl.alloc (App.Bl.alloc (App.Bl.refl w) (.cells #[.slice A n c] 30)) (.cells #[.slice A' n' c'] 30))
 cases ha : bothOk p p' f low high fuel with
 | false =>
  rw [ha] at hq hr0
  have hr := hid (hr0.trans (if_neg (by decide)))
  clear ha hr0 ho ho' hsm hsm'
  go_enter Try.func13, Try.ntmps13
  go_wp2_with fail
  refine (hq.out _ h2.out).mono ?_
  rintro e w1 ⟨rfl, b1⟩
  have B1 := hid (h2.out.trans (b1.mono h2.out.size))
  clear b1
  go_wp2_with fail
  go_ret2
  exact ⟨by rw [hr.out] <;> rfl, B1.out⟩
 | true =>
  have hf := hid (fun W (h : Below w.heap.size w W) => l9First_any lo lo' n n' c c' A A' p p' f low high fuel hn hl hsm hn' hl' hsm' W (ho.below h) (ho'.below h) ha)
  rw [ha] at hq hr0
  have hr := hid (hr0.trans (if_pos rfl))
  generalize fdAll p p' f low high fuel = fd at *
  obtain ⟨z, b⟩ := fd
  clear ha hr0 ho ho' hsm hsm'
  go_enter Try.func13, Try.ntmps13
  go_upto_region 1 with fail
  change (fun V => Code.wp _ _ _ _ V) _
  refine gen_world (X := fun V => Blk V w.heap.size 30 #[.slice A n c] ∧ Blk V (w.heap.size + 1) 30 #[.slice A' n' c'] ∧ Below w.heap.size w V) ⟨heap2_0 w _ _, heap2_1 w _ _, h2.out⟩ ?_
  rintro w1 ⟨x1, x2, b1⟩
  have z1 : w1.cell? ⟨w.heap.size, 0, none⟩ = some (.slice A n c) := x1.cells 0
  have z2 : w1.cell? ⟨w.heap.size + 1, 0, none⟩ = some (.slice A' n' c') := x2.cells 0
  have X1 := hid x1
  have X2 := hid x2
  have B1 := hid b1
  clear x1 x2 b1
  go_wp2_with fail
  refine (hq.out _ B1.out).mono ?_
  rintro e w2 ⟨rfl, b2⟩
  have B2 := hid (B1.out.trans (b2.mono B1.out.size))
  have y1 : w2.cell? ⟨w.heap.size, 0, none⟩ = some (.slice A n c) := (X1.out.below b2 X1.out.lt).cells 0
  have y2 : w2.cell? ⟨w.heap.size + 1, 0, none⟩ = some (.slice A' n' c') := (X2.out.below b2 X2.out.lt).cells 0
  clear b2 z1 z2
  go_wp2_with fail
  refine (hf.out _ B2.out).mono ?_
  rintro e w3 ⟨rfl, b3⟩
  have B3 := hid (B2.out.trans (b3.mono B2.out.size))
  clear b3 y1 y2
  go_wp2_with fail
  go_ret2
  exact ⟨by rw [hr.out] <;> rfl, B3.out⟩
end Go.Proofs.Ytdmcgkcpclepfab.Srq
-- squeezed
