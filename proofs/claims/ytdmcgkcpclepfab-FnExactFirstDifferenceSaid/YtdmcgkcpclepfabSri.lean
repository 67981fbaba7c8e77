import Derived.Test.YtdmcgkcpclepfabSrq
import Derived.Test.YtdmcgkcpclepfabIrp
import Derived.Test.YtdmcgkcpclepfabM3
set_option linter.all false
namespace Go.Proofs.Ytdmcgkcpclepfab.Sri
open Lib (hid)
open Go.ChangeShapes Go.WideShapes Go.ChangeAt Go.RowKit
open PL Mem Srun Sst To OwnS AskP Res StpS PrgS Swhole Sout Irp RunF IntsP LawI PArgP SaysP Sme Srp Srq
def runV (g : Nat) : Value := .func (.func 69) #[] #[.pointer (some ⟨g, 0, none⟩), .pointer (some ⟨g + 1, 0, none⟩), .pointer (some ⟨g + 2, 0, none⟩)]
structure RunB (W : World) (g : Nat) (A : Option Addr) (n c : Nat) (f fuel : Int) : Prop where
 p : Blk W g 30 #[.slice A n c]
 f : Blk W (g + 1) 3 #[.int .i64 f]
 u : Blk W (g + 2) 3 #[.int .i64 fuel]
theorem RunB.lt {W : World} {g n c : Nat} {A : Option Addr} {f fuel : Int} (h : RunB W g A n c f fuel) : g + 2 < W.heap.size := h.u.lt
theorem RunB.below {W W' : World} {g n c B : Nat} {A : Option Addr} {f fuel : Int} (h : RunB W g A n c f fuel) (b : Below B W W') (hB : g + 2 < B) : RunB W' g A n c f fuel :=
 ⟨h.p.below b (by omega), h.f.below b (by omega), h.u.below b hB⟩
theorem runOf_any (A : Option Addr) (n c : Nat) (f fuel : Int) (w : World) :
  Calls Try.prog 51 #[.agg #[.slice A n c], .int .i64 f, .int .i64 fuel] w fun e w' => e = .returned (runV w.heap.size) ∧ RunB w' w.heap.size A n c f fuel ∧ Below w.heap.size w w' := by
 have HB := hid (show RunB (((w.alloc (.cells #[.slice A n c] 30)).alloc (.cells #[.int .i64 f] 3)).alloc (.cells #[.int .i64 fuel] 3)) w.heap.size A n c f fuel from ⟨heap3_0 _ _ _ _, heap3_1 _ _ _ _, heap3_2 _ _ _ _⟩)
 have HL := hid (show Below w.heap.size w (((w.alloc (.cells #[.slice A n c] 30)).alloc (.cells #[.int .i64 f] 3)).alloc (.cells #[.int .i64 fuel] 3)) from ((((Below.refl _ _).alloc (Nat.le_refl _) _).alloc (by simp) _).alloc (by simp <;> omega) _))
 go_enter Try.func51, Try.ntmps51
 go_wp2_with fail
 go_ret
 exact ⟨rfl, HB.out, HL.out⟩
set_option maxRecDepth 100000 in
set_option maxHeartbeats 4000000 in
theorem runOf1_any (lo n c g : Nat) (A : Option Addr) (p : Pg) (f arg fuel : Int) (hn : n ≤ 9223372036854775807) (hl : p.length = n) (hsm : Small p 9223372036854775807) (ha : asks p f arg fuel = true) (w : World) (ho : OwnP w lo (.slice A n c) p) (hb : RunB w g A n c f fuel) :
  Calls Try.prog 69 #[.int .i64 arg, .pointer (some ⟨g, 0, none⟩), .pointer (some ⟨g + 1, 0, none⟩), .pointer (some ⟨g + 2, 0, none⟩)] w (RunR (run p fuel f arg) w) := by
 have hru := hid (fun W (h : Below w.heap.size w W) => runI_any lo n c A p f arg fuel hn hl hsm W (ho.below h))
 have hr := hid (runR_yes ha)
 have HB := hid hb
 have hlt := hb.lt
 generalize run p fuel f arg = r at *
 clear ho ha hsm hb
 go_enter Try.func69, Try.ntmps69
 go_upto_region 1 with fail
 change (fun V => Code.wp _ _ _ _ V) _
 refine gen_world (X := fun V => Blk V w.heap.size 77 #[.int .i64 0, .int .i64 0, .slice none 0 0, .int .i64 0] ∧ Below w.heap.size w V) ⟨heap1_0 w _, (Below.refl _ _).alloc (Nat.le_refl _) _⟩ ?_
 rintro w1 ⟨x1, b1⟩
 have RB := HB.out.below b1 hlt
 have z0 : w1.cell? ⟨g, 0, none⟩ = some (.slice A n c) := RB.p.cells 0
 have z1 : w1.cell? ⟨g + 1, 0, none⟩ = some (.int .i64 f) := RB.f.cells 0
 have z2 : w1.cell? ⟨g + 2, 0, none⟩ = some (.int .i64 fuel) := RB.u.cells 0
 have X1 := hid x1
 have B1 := hid b1
 clear x1 b1 RB
 go_wp2_with fail
 refine (hru.out _ B1.out).mono ?_
 rintro e w2 ⟨A2, c2, rfl, ht, b2⟩
 rw [hr.out] at ht ⊢
 unfold outval
 have X2 := hid (X1.out.below b2 X1.out.lt)
 have HT := hid (own_mono ht (B1.out.size))
 have B2 := hid (B1.out.trans (b2.mono B1.out.size))
 clear ht b2 z0 z1 z2 hru
 dsimp only
 go_upto_region 2 with fail
 change (fun V => Code.wp _ _ _ _ V) _
 refine gen_world (X := fun V => Blk V w2.heap.size 77 #[.int .i64 r.kind, .int .i64 r.value, .slice A2 r.trace.length c2, .int .i64 r.spent] ∧ Blk V w.heap.size 77 #[.int .i64 0, .int .i64 0, .slice none 0 0, .int .i64 0] ∧ Tre V w.heap.size (.slice A2 r.trace.length c2) r.trace ∧ Below w.heap.size w V)
  ⟨heap1_0 w2 _, X2.out.alloc _, World.ownsRow.alloc HT.out _, B2.out.alloc B2.out.size _⟩ ?_
 clear X1 X2 HT B1 B2 HB
 rintro V ⟨v1, v2, v3, v4⟩
 have z1 := v1.cells
 have z2 := v2.cells
 have f2 := v2.frozen
 have V2 := hid v2
 have V3 := hid v3
 have V4 := hid v4
 clear v1 v2 v3 v4
 go_wp2_with fail
 refine gen_post (X := fun V => Blk V w.heap.size 77 #[.int .i64 r.kind, .int .i64 r.value, .slice A2 r.trace.length c2, .int .i64 r.spent] ∧ Tre V w.heap.size (.slice A2 r.trace.length c2) r.trace ∧ Below w.heap.size w V) ?_ ?_
 ·have n2 := blk_apart V3.out V2.out (by decide)
  refine ⟨Blk.set4 V2.out _ _ _ _, ?_, ?_⟩
  ·iterate 4 refine own_far ?_ _ _ n2
   exact V3.out
  ·iterate 4 refine Below.setCell ?_ (by exact Nat.le_refl _) _
   exact V4.out
 clear z1 z2 f2 V2 V3 V4
 rintro V ⟨v1, v2⟩
 have V1 := v1.cells
 have HV := hid v2
 clear v1 v2
 exact bodyPost_ret (v := .agg #[.int .i64 r.kind, .int .i64 r.value, .slice A2 r.trace.length c2, .int .i64 r.spent]) (by simp [results, Try.results69, go_sem, V1]) rfl ⟨A2, c2, rfl, HV.out.1, HV.out.2⟩
set_option maxHeartbeats 4000000 in
theorem runAll_any (lo n c : Nat) (A : Option Addr) (p : Pg) (f low high fuel : Int) (hn : n ≤ 9223372036854775807) (hl : p.length = n) (hsm : Small p 9223372036854775807) (w : World) (ho : OwnP w lo (.slice A n c) p) :
  Calls Try.prog 50 #[.agg #[.slice A n c], .int .i64 f, .int .i64 low, .int .i64 high, .int .i64 fuel] w fun e w' => e = .returned (.bool (rangeOk p f low high fuel)) ∧ Below w.heap.size w w' := by
 have hq := hid (fun W (h : Below w.heap.size w W) => canRun_any w.heap.size A n c p f low fuel hn hl hsm W (ho.rd.below h) h.size)
 have hN := hid (fun W => Stp.isNumber_any high W)
 have HALs := hid (show Below w.heap.size w (w.alloc (.cells #[.slice A n c] 30)) from (Below.refl _ _).alloc (Nat.le_refl _) _)
 have hnum : asks p f low fuel = true → -32768 ≤ low ∧ low ≤ 32767 := asks_num
 have hs : rangeOk p f low high fuel = (asks p f low fuel && (isNum high && btw (high - low) 0 100)) := rfl
 generalize rangeOk p f low high fuel = R at *
 clear ho hsm
 cases h1 : asks p f low fuel with
 | false =>
  rw [h1] at hq hs
  have HS := hid (show R = false by rw [hs]; rfl)
  clear hs hnum h1
  go_enter Try.func50, Try.ntmps50
  go_wp2_with fail
  refine (hq.out _ HALs.out).mono ?_
  rintro e w1 ⟨rfl, b1⟩
  go_wp2_with fail
  go_ret
  exact ⟨by rw [HS.out]; rfl, HALs.out.trans (b1.mono HALs.out.size)⟩
 | true =>
  obtain ⟨hl1, hl2⟩ := hnum h1
  rw [h1] at hq hs
  cases h2 : isNum high with
  | false =>
   rw [h2] at hN hs
   have HS := hid (show R = false by rw [hs]; rfl)
   clear hs hnum h1 h2
   go_enter Try.func50, Try.ntmps50
   go_wp2_with fail
   refine (hq.out _ HALs.out).mono ?_
   rintro e w1 ⟨rfl, b1⟩
   go_wp2_with fail
   refine (hN.out _).mono ?_
   rintro e w2 ⟨rfl, rfl⟩
   go_wp2_with fail
   go_ret
   exact ⟨by rw [HS.out]; rfl, HALs.out.trans (b1.mono HALs.out.size)⟩
  | true =>
   have hh : -32768 ≤ high ∧ high ≤ 32767 := by unfold isNum at h2; simpa using h2
   obtain ⟨hh1, hh2⟩ := hh
   rw [h2] at hN hs
   have hRv : R = (decide (low ≤ high) && decide (high ≤ low + 100)) := by
    rw [hs]; unfold btw
    by_cases a : low ≤ high <;> by_cases b : high ≤ low + 100 <;> simp [a, b] <;> omega
   by_cases ha : low ≤ high
   ·by_cases hb : high ≤ low + 100
    ·have HS := hid (show R = true by rw [hRv, decide_eq_true ha, decide_eq_true hb]; rfl)
     have c1 : decide (low ≤ high) = true := decide_eq_true ha
     have c2 : decide (high ≤ low + 100) = true := decide_eq_true hb
     clear hs hnum h1 h2 hRv
     go_enter Try.func50, Try.ntmps50
     go_wp2_with fail
     refine (hq.out _ HALs.out).mono ?_
     rintro e w1 ⟨rfl, b1⟩
     go_wp2_with fail
     refine (hN.out _).mono ?_
     rintro e w2 ⟨rfl, rfl⟩
     go_wp2_with fail
     go_ret
     exact ⟨by rw [HS.out]; rfl, HALs.out.trans (b1.mono HALs.out.size)⟩
    ·have HS := hid (show R = false by rw [hRv, decide_eq_false hb]; simp)
     have c1 : decide (low ≤ high) = true := decide_eq_true ha
     have c2 : decide (high ≤ low + 100) = false := decide_eq_false hb
     clear hs hnum h1 h2 hRv
     go_enter Try.func50, Try.ntmps50
     go_wp2_with fail
     refine (hq.out _ HALs.out).mono ?_
     rintro e w1 ⟨rfl, b1⟩
     go_wp2_with fail
     refine (hN.out _).mono ?_
     rintro e w2 ⟨rfl, rfl⟩
     go_wp2_with fail
     go_ret
     exact ⟨by rw [HS.out]; rfl, HALs.out.trans (b1.mono HALs.out.size)⟩
   ·have HS := hid (show R = false by rw [hRv, decide_eq_false ha]; rfl)
    have c1 : decide (low ≤ high) = false := decide_eq_false ha
    clear hs hnum h1 h2 hRv
    go_enter Try.func50, Try.ntmps50
    go_wp2_with fail
    refine (hq.out _ HALs.out).mono ?_
    rintro e w1 ⟨rfl, b1⟩
    go_wp2_with fail
    refine (hN.out _).mono ?_
    rintro e w2 ⟨rfl, rfl⟩
    go_wp2_with fail
    go_ret
    exact ⟨by rw [HS.out]; rfl, HALs.out.trans (b1.mono HALs.out.size)⟩
set_option maxRecDepth 100000 in
set_option maxHeartbeats 8000000 in
theorem leastD_any (lo lo' n n' c c' : Nat) (A A' : Option Addr) (p p' : Pg) (f low high fuel : Int) (hn : n ≤ 9223372036854775807) (hl : p.length = n) (hsm : Small p 9223372036854775807) (hn' : n' ≤ 9223372036854775807) (hl' : p'.length = n') (hsm' : Small p' 9223372036854775807) (w : World) (ho : OwnP w lo (.slice A n c) p) (ho' : OwnP w lo' (.slice A' n' c') p') :
  Calls Try.prog 33 #[.agg #[.slice A n c], .agg #[.slice A' n' c'], .int .i64 f, .int .i64 low, .int .i64 high, .int .i64 fuel] w fun e w' => e = .returned (.tuple #[.int .i64 (leastR p p' f low high fuel).1, .bool (leastR p p' f low high fuel).2]) ∧ Below w.heap.size w w' := by
 have hq := hid (fun W (h : Below w.heap.size w W) => runAll_any lo n c A p f low high fuel hn hl hsm W (ho.below h))
 have hq' := hid (fun W (h : Below w.heap.size w W) => runAll_any lo' n' c' A' p' f low high fuel hn' hl' hsm' W (ho'.below h))
 have hr0 : leastR p p' f low high fuel = if bothOk p p' f low high fuel = true then (if (fdAll p p' f low high fuel).2 = true then (fdAll p p' f low high fuel).1 else high + 1, true) else (0, false) := rfl
 rw [both_eq] at hr0
 have h2 := hid (App.Bl.alloc (App.Bl.alloc (App.Bl.refl w) (.cells #[.slice A n c] 30)) (.cells #[.slice A' n' c'] 30))
 cases ha : rangeOk p f low high fuel with
 | false =>
  rw [ha, Bool.false_and] at hr0
  rw [ha] at hq
  have hr := hid (hr0.trans (if_neg (by decide)))
  clear ha hr0 ho ho' hsm hsm' hq'
  go_enter Try.func33, Try.ntmps33
  go_wp2_with fail
  refine (hq.out _ h2.out).mono ?_
  rintro e w1 ⟨rfl, b1⟩
  have B1 := hid (h2.out.trans (b1.mono h2.out.size))
  clear b1
  go_wp2_with fail
  go_ret2
  exact ⟨by rw [hr.out] <;> rfl, B1.out⟩
 | true =>
  rw [ha, Bool.true_and] at hr0
  rw [ha] at hq
  cases ha' : rangeOk p' f low high fuel with
  | false =>
   rw [ha'] at hq' hr0
   have hr := hid (hr0.trans (if_neg (by decide)))
   clear ha ha' hr0 ho ho' hsm hsm'
   go_enter Try.func33, Try.ntmps33
   go_upto_region 1 with fail
   change (fun V => Code.wp _ _ _ _ V) _
   refine gen_world (X := fun V => Blk V w.heap.size 30 #[.slice A n c] ∧ Blk V (w.heap.size + 1) 30 #[.slice A' n' c'] ∧ Below w.heap.size w V) ⟨heap2_0 w _ _, heap2_1 w _ _, h2.out⟩ ?_
   rintro w1 ⟨x1, x2, b1⟩
   have z1 : w1.cell? ⟨w.heap.size, 0, none⟩ = some (.slice A n c) := x1.cells 0
   have X2 := hid x2
   have B1 := hid b1
   clear x1 x2 b1
   go_wp2_with fail
   refine (hq.out _ B1.out).mono ?_
   rintro e w2 ⟨rfl, b2⟩
   have B2 := hid (B1.out.trans (b2.mono B1.out.size))
   have y2 : w2.cell? ⟨w.heap.size + 1, 0, none⟩ = some (.slice A' n' c') := (X2.out.below b2 X2.out.lt).cells 0
   clear b2 z1
   go_wp2_with fail
   refine (hq'.out _ B2.out).mono ?_
   rintro e w3 ⟨rfl, b3⟩
   have B3 := hid (B2.out.trans (b3.mono B2.out.size))
   clear b3 y2
   go_wp2_with fail
   go_ret2
   exact ⟨by rw [hr.out] <;> rfl, B3.out⟩
  | true =>
   rw [ha'] at hq' hr0
   have hr := hid (hr0.trans (if_pos rfl))
   obtain ⟨h1, h2', h3, h4, h5⟩ := range_num ha
   have hru := hid (fun (g q : Nat) (hq : low + q ≤ high) W (h : Below w.heap.size w W) (hb : RunB W g A n c f fuel) => (runOf1_any lo n c g A p f (low + q) fuel hn hl hsm (range_mid ha hq) W (ho.below h) hb).mono (fun e w' h' => show ∃ Aa ca, e = Ending.returned (.agg #[.int .i64 (run p fuel f (low + q)).kind, .int .i64 (run p fuel f (low + q)).value, .slice Aa (run p fuel f (low + q)).trace.length ca, .int .i64 (run p fuel f (low + q)).spent]) ∧ Tre w' W.heap.size (.slice Aa (run p fuel f (low + q)).trace.length ca) (run p fuel f (low + q)).trace ∧ Below W.heap.size W w' from h'))
   have hru' := hid (fun (g q : Nat) (hq : low + q ≤ high) W (h : Below w.heap.size w W) (hb : RunB W g A' n' c' f fuel) => (runOf1_any lo' n' c' g A' p' f (low + q) fuel hn' hl' hsm' (range_mid ha' hq) W (ho'.below h) hb).mono (fun e w' h' => show ∃ Aa ca, e = Ending.returned (.agg #[.int .i64 (run p' fuel f (low + q)).kind, .int .i64 (run p' fuel f (low + q)).value, .slice Aa (run p' fuel f (low + q)).trace.length ca, .int .i64 (run p' fuel f (low + q)).spent]) ∧ Tre w' W.heap.size (.slice Aa (run p' fuel f (low + q)).trace.length ca) (run p' fuel f (low + q)).trace ∧ Below W.heap.size W w' from h'))
   have HLEN := hid (fun (q : Nat) (hq : low + q ≤ high) => (show (run p fuel f (low + q)).trace.length ≤ 100000 ∧ (run p' fuel f (low + q)).trace.length ≤ 100000 from ⟨trace_len (range_mid ha hq), trace_len (range_mid ha' hq)⟩))
   have HYES := hid (fun (l q : Nat) h => fdGo_yes (p := p) (p' := p') (f := f) (low := low) (fuel := fuel) (l := l) (q := q) h)
   have HNO := hid (fun (l q : Nat) h => fdGo_no (p := p) (p' := p') (f := f) (low := low) (fuel := fuel) (l := l) (q := q) h)
   have hfd := hid (show fdAll p p' f low high fuel = fdGo p p' f low fuel (high - low + 1).toNat 0 from rfl)
   clear ha ha' hr0 ho ho' hsm hsm' h1
   go_enter Try.func33, Try.ntmps33
   go_upto_region 1 with fail
   change (fun V => Code.wp _ _ _ _ V) _
   refine gen_world (X := fun V => Blk V w.heap.size 30 #[.slice A n c] ∧ Blk V (w.heap.size + 1) 30 #[.slice A' n' c'] ∧ Below w.heap.size w V) ⟨heap2_0 w _ _, heap2_1 w _ _, h2.out⟩ ?_
   rintro w1 ⟨x1, x2, b1⟩
   have z1 : w1.cell? ⟨w.heap.size, 0, none⟩ = some (.slice A n c) := x1.cells 0
   have X1 := hid x1
   have X2 := hid x2
   have B1 := hid b1
   clear x1 x2 b1
   go_wp2_with fail
   refine (hq.out _ B1.out).mono ?_
   rintro e wz ⟨rfl, bz⟩
   have BZ := hid (B1.out.trans (bz.mono B1.out.size))
   have XZ1 := hid (X1.out.below bz X1.out.lt)
   have XZ2 := hid (X2.out.below bz X2.out.lt)
   have y2 : wz.cell? ⟨w.heap.size + 1, 0, none⟩ = some (.slice A' n' c') := XZ2.out.cells 0
   clear bz z1 X1 X2 B1
   go_wp2_with fail
   refine (hq'.out _ BZ.out).mono ?_
   rintro e w2 ⟨rfl, b2⟩
   have B2 := hid (BZ.out.trans (b2.mono BZ.out.size))
   have X1 := XZ1.out.below b2 XZ1.out.lt
   have X2 := XZ2.out.below b2 XZ2.out.lt
   have hX := hid (fun (V : World) (b : Below w2.heap.size w2 V) => (show V.cell? ⟨w.heap.size, 0, none⟩ = some (.slice A n c) ∧ V.cell? ⟨w.heap.size + 1, 0, none⟩ = some (.slice A' n' c') from ⟨(X1.below b X1.lt).cells 0, (X2.below b X2.lt).cells 0⟩))
   clear b2 y2 BZ XZ1 XZ2 X1 X2 hq hq' h2
   obtain ⟨y0, y1⟩ := hX.out w2 (Below.refl _ _)
   go_wp2_with fail
   have S0 : (fun V => V.cell? ⟨w.heap.size, 0, none⟩ = some (.slice A n c) ∧ V.cell? ⟨w.heap.size + 1, 0, none⟩ = some (.slice A' n' c')) w2.drew := ⟨y0, y1⟩
   refine Last2.region_last [] (fun V => V.cell? ⟨w.heap.size, 0, none⟩ = some (.slice A n c) ∧ V.cell? ⟨w.heap.size + 1, 0, none⟩ = some (.slice A' n' c')) (by kernel_rfl) ?_
   refine Last2.tk 0 33 (.agg #[.slice A n c]) S0 ?_
   simp only [Act.put, Last2.s]
   refine Last2.tk 1 34 (.int .i64 f) S0 ?_
   simp only [Act.put, Last2.s]
   refine Last2.tk 2 35 (.int .i64 fuel) S0 ?_
   simp only [Act.put, Last2.s]
   refine Last2.tk 4 37 (.agg #[.slice A' n' c']) S0 ?_
   simp only [Act.put, Last2.s]
   refine Last2.tk 5 38 (.int .i64 f) S0 ?_
   simp only [Act.put, Last2.s]
   refine Last2.tk 6 39 (.int .i64 fuel) S0 ?_
   simp only [Act.put, Last2.s]
   refine Last2.last_one (i := 3) (o := { dst := some 36, op := .call { callee := .value (.func 51), args := #[.tmp 33, .tmp 34, .tmp 35], argTypes := #[30, 3, 3] }, type := _, pos := _, after := _, guard := _ }) (by kernel_rfl) rfl rfl (fun K hK => ?_)
   go_simp
   refine (runOf_any A n c f fuel w2.drew).mono ?_
   rintro e wa ⟨rfl, ra, ba⟩
   have ta : Below w2.heap.size w2 wa := (Below.refl _ _).drew.trans ba
   refine hK.out _ _ (fun _ => hX.out wa ta) ?_
   clear hK K
   try simp only [Act.put, Last2.s]
   refine Last2.last_one (i := 7) (o := { dst := some 40, op := .call { callee := .value (.func 51), args := #[.tmp 37, .tmp 38, .tmp 39], argTypes := #[30, 3, 3] }, type := _, pos := _, after := _, guard := _ }) (by kernel_rfl) rfl rfl (fun K hK => ?_)
   go_simp
   refine (runOf_any A' n' c' f fuel wa).mono ?_
   rintro e wb ⟨rfl, rb, bb⟩
   have tb : Below w2.heap.size w2 wb := ta.trans (bb.mono ta.size)
   refine hK.out _ _ (fun _ => hX.out wb tb) ?_
   clear hK K
   try simp only [Act.put, Last2.s]
   have S1 := hX.out wb tb
   refine Last2.last_take (i := 8) (d := some 14) (v := runV w2.heap.size) rfl rfl (by kernel_rfl) (by kernel_rfl) (by kernel_rfl) (fun _ _ _ h => h) rfl (by kernel_rfl) (by kernel_rfl) rfl ?_ S1 ?_
   ·(intro V hV; (try dsimp only at hV); go_simp; try with_reducible rfl)
   simp only [Act.put, Last2.s]
   refine Last2.last_take (i := 9) (d := some 15) (v := runV wa.heap.size) rfl rfl (by kernel_rfl) (by kernel_rfl) (by kernel_rfl) (fun _ _ _ h => h) rfl (by kernel_rfl) (by kernel_rfl) rfl ?_ S1 ?_
   ·(intro V hV; (try dsimp only at hV); go_simp; try with_reducible rfl)
   simp only [Act.put, Last2.s]
   refine Last2.last_done (by kernel_rfl) ?_ _
   have RA := hid (show RunB wb w2.heap.size A n c f fuel from ra.below bb (show w2.heap.size + 2 < wa.heap.size from ra.lt))
   have RB := hid rb
   have la : w2.heap.size + 2 < wb.heap.size := by have := ra.lt; have := bb.size; simp at *; omega
   have lb := rb.lt
   have TB := hid (B2.out.trans (tb.mono B2.out.size))
   clear ta tb ra rb ba bb hX y0 y1 S0 S1 B2
   generalize w2.heap.size = g1 at *
   generalize wa.heap.size = g2 at *
   go_wp2_with fail
   go_loopw [16] (fun i wr => ∃ (q : Nat), low + q ≤ high + 1 ∧ i = .int .i64 (low + q) ∧ fdGo p p' f low fuel (high - low + 1).toNat 0 = fdGo p p' f low fuel (high - low + 1 - q).toNat q ∧ Below wb.heap.size wb wr) (fun i _ => (high + 1 - intOf i).toNat)
   case atStart => exact ⟨0, by omega, by simp, by simp, Below.refl _ _⟩
   case round =>
    obtain ⟨q, hq, rfl, hgo, hb⟩ := hrel
    have hlo := hb.size
    have HB := hid hb
    have HG := hid hgo
    have HRA := hid (RA.out.below hb la)
    have HRB := hid (RB.out.below hb lb)
    clear hb hgo
    by_cases hlt : low + q ≤ high
    ·have HR := hid (hru.out g1 q hlt wr (TB.out.trans (HB.out.mono TB.out.size)) HRA.out)
     have HR' := hid (fun (W : World) (b : Below wr.heap.size wr W) => hru'.out g2 q hlt W (TB.out.trans ((HB.out.trans (b.mono HB.out.size)).mono TB.out.size)) (HRB.out.below b (by have := HRB.out.lt; exact this)))
     obtain ⟨l, hl''⟩ : ∃ l, (high - low + 1 - q).toNat = l + 1 := ⟨(high - low - q).toNat, by omega⟩
     have hY := HYES.out l q
     have hN := HNO.out l q
     have hg2 := HG.out
     rw [hl''] at hg2
     have HL := hid (show (high - low + 1 - ((q + 1 : Nat) : Int)).toNat = l by omega)
     have hlen := HLEN.out q hlt
     generalize run p fuel f (low + q) = r at *
     generalize run p' fuel f (low + q) = r' at *
     obtain ⟨k, v, t, s⟩ := r
     obtain ⟨k', v', t', s'⟩ := r'
     have hal : alikeO ⟨k, v, t, s⟩ ⟨k', v', t', s'⟩ = (k == k' && v == v' && decide (saids t = saids t')) := rfl
     dsimp only at hlen HR HR'
     have HLE := hid hlen
     have HY := hid hY
     have HN := hid hN
     have HG2 := hid hg2
     have cS := hid (fun (W : World) (Aa Ab : Option Addr) (ca cb : Nat) (q1 : Rd3 W W.heap.size Aa t) (q2 : Rd3 W W.heap.size Ab t') => alikeI_any W.heap.size t.length t'.length ca cb Aa Ab t t' k v s k' v' s' rfl rfl HLE.out.1 HLE.out.2 W q1 q2 (Nat.le_refl _))
     rw [← hal] at cS
     clear hY hN hg2 hl'' HG hlen hal HLEN
     generalize alikeO ⟨k, v, t, s⟩ ⟨k', v', t', s'⟩ = al at *
     unfold runV
     go_wp2_with fail
     refine HR.out.mono ?_
     rintro e wx ⟨Aa, ca, rfl, oa, ba⟩
     go_wp2_with fail
     refine (HR'.out wx ba).mono ?_
     rintro e wy ⟨Ab, cb, rfl, ob, bb⟩
     have HCS := hid (cS.out wy _ _ ca cb ((show Rd3 wx wx.heap.size Aa t from rd_own oa).below bb |>.more bb.size) (show Rd3 wy wy.heap.size Ab t' from rd_own ob))
     have TY := hid (HB.out.trans ((ba.trans (bb.mono ba.size)).mono HB.out.size))
     clear oa ob ba bb HR HR' cS
     go_wp2_with fail
     refine HCS.out.mono ?_
     rintro e wc ⟨rfl, bc⟩
     have TC := hid (TY.out.trans (bc.mono TY.out.size))
     clear bc HCS TY
     cases al with
     | false =>
      have HX := hid (HG2.out.trans (HN.out rfl))
      clear HY HN
      go_wp2_with fail
      go_ret2
      exact ⟨by rw [hr.out, hfd.out, HX.out] <;> rfl, TB.out.trans (TC.out.mono TB.out.size)⟩
     | true =>
      have HX := hid (HG2.out.trans (HY.out rfl))
      clear HY HN
      go_wp2_with fail
      go_roundw
      case rel => exact ⟨q + 1, by omega, by go_num, by rw [HX.out, HL.out], TC.out⟩
      case measure => simp [intOf]; omega
    ·have hqe : (high - low + 1 - q).toNat = 0 := by omega
     have hcb : decide (low + (q : Int) ≤ high) = false := by simpa using hlt
     have HQ := hid hqe
     have HE := hid (show low + (q : Int) = high + 1 by omega)
     clear hqe hlt
     go_wp2_with fail
     go_ret2
     exact ⟨by rw [hr.out, hfd.out, HG.out, HQ.out, HE.out] <;> rfl, TB.out.trans (HB.out.mono TB.out.size)⟩
set_option maxRecDepth 100000 in
set_option maxHeartbeats 4000000 in
theorem sameI_any (lo lo' n n' c c' : Nat) (A A' : Option Addr) (p p' : Pg) (f low high fuel : Int) (hn : n ≤ 9223372036854775807) (hl : p.length = n) (hsm : Small p 9223372036854775807) (hn' : n' ≤ 9223372036854775807) (hl' : p'.length = n') (hsm' : Small p' 9223372036854775807) (w : World) (ho : OwnP w lo (.slice A n c) p) (ho' : OwnP w lo' (.slice A' n' c') p') :
  Calls Try.prog 11 #[.agg #[.slice A n c], .agg #[.slice A' n' c'], .int .i64 f, .int .i64 low, .int .i64 high, .int .i64 fuel] w fun e w' => e = .returned (.tuple #[.bool (sameR p p' f low high fuel).1, .bool (sameR p p' f low high fuel).2]) ∧ Below w.heap.size w w' := by
 have hq := hid (fun W (h : Below w.heap.size w W) => leastD_any lo lo' n n' c c' A A' p p' f low high fuel hn hl hsm hn' hl' hsm' W (ho.below h) (ho'.below h))
 have h2 := hid (App.Bl.alloc (App.Bl.alloc (App.Bl.refl w) (.cells #[.slice A n c] 30)) (.cells #[.slice A' n' c'] 30))
 have hr0 : sameR p p' f low high fuel = if bothOk p p' f low high fuel = true then (!(fdAll p p' f low high fuel).2, true) else (false, false) := rfl
 have hl0 : leastR p p' f low high fuel = if bothOk p p' f low high fuel = true then (if (fdAll p p' f low high fuel).2 = true then (fdAll p p' f low high fuel).1 else high + 1, true) else (0, false) := rfl
 cases ha : bothOk p p' f low high fuel with
 | false =>
  rw [ha, if_neg (by decide)] at hr0 hl0
  rw [hl0] at hq
  have hr := hid hr0
  clear ha hr0 hl0 ho ho' hsm hsm'
  go_enter Try.func11, Try.ntmps11
  go_wp2_with fail
  refine (hq.out _ h2.out).mono ?_
  rintro e w1 ⟨rfl, b1⟩
  have B1 := hid (h2.out.trans (b1.mono h2.out.size))
  clear b1
  go_wp2_with fail
  go_ret2
  exact ⟨by rw [hr.out] <;> rfl, B1.out⟩
 | true =>
  have hle : (fdAll p p' f low high fuel).2 = true → (fdAll p p' f low high fuel).1 ≤ high := fun h => by
   have h1 := fdGo_le p p' f low fuel (high - low + 1).toNat 0 h
   have h3 : low ≤ high := by
    unfold bothOk at ha
    rw [Bool.and_eq_true] at ha
    exact (range_num ha.1).2.2.1
   have : (fdAll p p' f low high fuel).1 < low + ((0 : Nat) : Int) + ((high - low + 1).toNat : Int) := h1
   omega
  have hze : (fdAll p p' f low high fuel).2 = false → (fdAll p p' f low high fuel).1 = 0 := fun h => fdGo_zero p p' f low fuel (high - low + 1).toNat 0 h
  rw [ha, if_pos rfl] at hr0 hl0
  rw [hl0] at hq
  have hr := hid hr0
  generalize fdAll p p' f low high fuel = fd at *
  obtain ⟨z, b⟩ := fd
  clear ha hr0 hl0 ho ho' hsm hsm'
  cases b with
  | true =>
   have hz : z ≤ high := hle rfl
   have hzd : decide (high < z) = false := by simpa using hz
   rw [if_pos rfl] at hq
   dsimp only at hq
   clear hle hze
   go_enter Try.func11, Try.ntmps11
   go_wp2_with fail
   refine (hq.out _ h2.out).mono ?_
   rintro e w1 ⟨rfl, b1⟩
   have B1 := hid (h2.out.trans (b1.mono h2.out.size))
   clear b1
   go_wp2_with fail
   go_ret2
   exact ⟨by rw [hr.out] <;> rfl, B1.out⟩
  | false =>
   dsimp only at hq
   rw [if_neg (by decide)] at hq
   have hz0 := hid (hze rfl)
   have hzd : decide (high < high + 1) = true := by simp; omega
   clear hle hze
   go_enter Try.func11, Try.ntmps11
   go_wp2_with fail
   refine (hq.out _ h2.out).mono ?_
   rintro e w1 ⟨rfl, b1⟩
   have B1 := hid (h2.out.trans (b1.mono h2.out.size))
   clear b1
   go_wp2_with fail
   go_ret2
   exact ⟨by rw [hr.out]; rfl, B1.out⟩
set_option maxRecDepth 100000 in
set_option maxHeartbeats 4000000 in
theorem fdI_any (lo lo' n n' c c' : Nat) (A A' : Option Addr) (p p' : Pg) (f low high fuel : Int) (hn : n ≤ 9223372036854775807) (hl : p.length = n) (hsm : Small p 9223372036854775807) (hn' : n' ≤ 9223372036854775807) (hl' : p'.length = n') (hsm' : Small p' 9223372036854775807) (w : World) (ho : OwnP w lo (.slice A n c) p) (ho' : OwnP w lo' (.slice A' n' c') p') :
  Calls Try.prog 14 #[.agg #[.slice A n c], .agg #[.slice A' n' c'], .int .i64 f, .int .i64 low, .int .i64 high, .int .i64 fuel] w fun e w' => e = .returned (.tuple #[.int .i64 (fdR p p' f low high fuel).1, .bool (fdR p p' f low high fuel).2]) ∧ Below w.heap.size w w' := by
 have hq := hid (fun W (h : Below w.heap.size w W) => leastD_any lo lo' n n' c c' A A' p p' f low high fuel hn hl hsm hn' hl' hsm' W (ho.below h) (ho'.below h))
 have h2 := hid (App.Bl.alloc (App.Bl.alloc (App.Bl.refl w) (.cells #[.slice A n c] 30)) (.cells #[.slice A' n' c'] 30))
 have hr0 : fdR p p' f low high fuel = if bothOk p p' f low high fuel = true then fdAll p p' f low high fuel else (0, false) := rfl
 have hl0 : leastR p p' f low high fuel = if bothOk p p' f low high fuel = true then (if (fdAll p p' f low high fuel).2 = true then (fdAll p p' f low high fuel).1 else high + 1, true) else (0, false) := rfl
 cases ha : bothOk p p' f low high fuel with
 | false =>
  rw [ha, if_neg (by decide)] at hr0 hl0
  rw [hl0] at hq
  have hr := hid hr0
  clear ha hr0 hl0 ho ho' hsm hsm'
  go_enter Try.func14, Try.ntmps14
  go_wp2_with fail
  refine (hq.out _ h2.out).mono ?_
  rintro e w1 ⟨rfl, b1⟩
  have B1 := hid (h2.out.trans (b1.mono h2.out.size))
  clear b1
  go_wp2_with fail
  go_ret2
  exact ⟨by rw [hr.out] <;> rfl, B1.out⟩
 | true =>
  have hle : (fdAll p p' f low high fuel).2 = true → (fdAll p p' f low high fuel).1 ≤ high := fun h => by
   have h1 := fdGo_le p p' f low fuel (high - low + 1).toNat 0 h
   have h3 : low ≤ high := by
    unfold bothOk at ha
    rw [Bool.and_eq_true] at ha
    exact (range_num ha.1).2.2.1
   have : (fdAll p p' f low high fuel).1 < low + ((0 : Nat) : Int) + ((high - low + 1).toNat : Int) := h1
   omega
  have hze : (fdAll p p' f low high fuel).2 = false → (fdAll p p' f low high fuel).1 = 0 := fun h => fdGo_zero p p' f low fuel (high - low + 1).toNat 0 h
  rw [ha, if_pos rfl] at hr0 hl0
  rw [hl0] at hq
  have hr := hid hr0
  generalize fdAll p p' f low high fuel = fd at *
  obtain ⟨z, b⟩ := fd
  clear ha hr0 hl0 ho ho' hsm hsm'
  cases b with
  | true =>
   have hz : z ≤ high := hle rfl
   have hzd : decide (high < z) = false := by simpa using hz
   rw [if_pos rfl] at hq
   dsimp only at hq
   clear hle hze
   go_enter Try.func14, Try.ntmps14
   go_wp2_with fail
   refine (hq.out _ h2.out).mono ?_
   rintro e w1 ⟨rfl, b1⟩
   have B1 := hid (h2.out.trans (b1.mono h2.out.size))
   clear b1
   go_wp2_with fail
   go_ret2
   exact ⟨by rw [hr.out] <;> rfl, B1.out⟩
  | false =>
   dsimp only at hq
   rw [if_neg (by decide)] at hq
   have hz0 := hid (hze rfl)
   have hzd : decide (high < high + 1) = true := by simp; omega
   clear hle hze
   go_enter Try.func14, Try.ntmps14
   go_wp2_with fail
   refine (hq.out _ h2.out).mono ?_
   rintro e w1 ⟨rfl, b1⟩
   have B1 := hid (h2.out.trans (b1.mono h2.out.size))
   clear b1
   go_wp2_with fail
   go_ret2
   exact ⟨by rw [hr.out]; (have h0 := hz0.out; (try dsimp only at h0); rw [h0]; rfl), B1.out⟩
end Go.Proofs.Ytdmcgkcpclepfab.Sri
-- squeezed
