import Derived.Test.YtikdcnlbjpabjabPArgP
import Derived.Test.YtikdcnlbjpabjabM27
import Derived.Test.YtikdcnlbjpabjabTree
import Derived.Test.YtikdcnlbjpabjabM2
import Derived.Deep.AppendLies
set_option linter.all false
namespace Go.Proofs.Ytikdcnlbjpabjab.Prg
open Lib (hid)
open Go.ChangeShapes Go.WideShapes Go.ChangeAt Go.RowKit
open PL Mem Srun Sst To OwnS AskP StpS Res Swhole Sout Irp RunF IntsP TreeP LawI PArgP
theorem out_field0 (a b c d : Value) (w : World) : (Instr.field 59 (.agg #[a, b, c, d]) 0).run Try.prog w = .ok a w := by kernel_rfl
theorem l4Range_any (B : Nat) (A : Option Addr) (n c : Nat) (p : Pg) (f low high fuel : Int) (hn : n ≤ 9223372036854775807) (hl : p.length = n) (hsm : Small p 9223372036854775807) (w : World) (hr : RdP w B A p) (hB : B ≤ w.heap.size) :
  Calls Try.prog 52 #[.agg #[.slice A n c], .int .i64 f, .int .i64 low, .int .i64 high, .int .i64 fuel] w fun e w' => e = .returned (.bool (rangeOk p f low high fuel)) ∧ Below w.heap.size w w' := by
 have hq := hid (fun W (h : Below w.heap.size w W) => l2Ask_any B A n c p f low fuel hn hl hsm W (hr.below (h.mono hB)) (Nat.le_trans hB h.size))
 have hN := hid (fun W => l2Number_any high W)
 have hI := hid (fun W => l1In_any (high - low) 0 100 W)
 have HALs := hid (show Below w.heap.size w (w.alloc (.cells #[.slice A n c] 31)) from (Below.refl _ _).alloc (Nat.le_refl _) _)
 have hnum : asks p f low fuel = true → -32768 ≤ low ∧ low ≤ 32767 := asks_num
 have hs : rangeOk p f low high fuel = (asks p f low fuel && (isNum high && btw (high - low) 0 100)) := rfl
 generalize rangeOk p f low high fuel = R at *
 clear hr hsm
 cases h1 : asks p f low fuel with
 | false =>
  rw [h1] at hq hs
  have HS := hid (show R = false by rw [hs]; rfl)
  clear hs hnum h1
  go_enter Try.func52, Try.ntmps52
  go_wp2_with fail
  refine (hq.out _ HALs.out).mono ?_
  rintro e w1 ⟨rfl, b1⟩
  go_wp2_with fail
  go_ret
  exact ⟨by rw [HS.out]; rfl, HALs.out.trans (b1.mono HALs.out.size)⟩
 | true =>
  obtain ⟨hl1, hl2⟩ := hnum h1
  rw [h1] at hq hs
  cases h2 : isNum high with
  | false =>
   rw [h2] at hN hs
   have HS := hid (show R = false by rw [hs]; rfl)
   clear hs hnum h1 h2
   go_enter Try.func52, Try.ntmps52
   go_wp2_with fail
   refine (hq.out _ HALs.out).mono ?_
   rintro e w1 ⟨rfl, b1⟩
   go_wp2_with fail
   refine (hN.out _).mono ?_
   rintro e w2 ⟨rfl, rfl⟩
   go_wp2_with fail
   go_ret
   exact ⟨by rw [HS.out]; rfl, HALs.out.trans (b1.mono HALs.out.size)⟩
  | true =>
   have hh : -32768 ≤ high ∧ high ≤ 32767 := by unfold isNum at h2; simpa using h2
   obtain ⟨hh1, hh2⟩ := hh
   rw [h2] at hN hs
   generalize hb : btw (high - low) 0 100 = b at hs hI
   have HS := hid (show R = b by rw [hs]; simp)
   clear hs hnum h1 h2 hb
   go_enter Try.func52, Try.ntmps52
   go_wp2_with fail
   refine (hq.out _ HALs.out).mono ?_
   rintro e w1 ⟨rfl, b1⟩
   go_wp2_with fail
   refine (hN.out _).mono ?_
   rintro e w2 ⟨rfl, rfl⟩
   go_wp2_with fail
   refine (hI.out _).mono ?_
   rintro e w3 ⟨rfl, rfl⟩
   go_wp2_with fail
   go_ret
   exact ⟨by rw [HS.out] <;> rfl, HALs.out.trans (b1.mono HALs.out.size)⟩
set_option maxRecDepth 100000 in
set_option maxHeartbeats 8000000 in
theorem pargS_any (lo n c : Nat) (A : Option Addr) (p : Pg) (f low high fuel : Int) (hn : n ≤ 9223372036854775807) (hl : p.length = n) (hsm : Small p 9223372036854775807) (w : World) (ho : OwnP w lo (.slice A n c) p) :
  Calls Try.prog 23 #[.agg #[.slice A n c], .int .i64 f, .int .i64 low, .int .i64 high, .int .i64 fuel] w (IntsR (pargR p f low high fuel) w) := by
 obtain ⟨i0, hi, hz0, hz1, hz2⟩ := info_parts info3
 have hq := hid (fun W (h : Below w.heap.size w W) => l4Range_any w.heap.size A n c p f low high fuel hn hl hsm W (ho.rd.below h) h.size)
 have hr0 : pargR p f low high fuel = if rangeOk p f low high fuel = true then (pArgs p f low fuel (high - low + 1).toNat, true) else ([], false) := rfl
 cases ha : rangeOk p f low high fuel with
 | false =>
  rw [ha] at hq hr0
  have hr := hid (hr0.trans (if_neg (by decide)))
  clear ha ho hsm hr0
  go_enter Try.func23, Try.ntmps23
  go_upto_region 1 with fail
  change (fun V => Code.wp _ _ _ _ V) _
  refine gen_world (X := fun V => Blk V w.heap.size 31 #[.slice A n c] ∧ Below w.heap.size w V ∧ w.heap.size < V.heap.size) ⟨heap1_0 w _, (Below.refl _ _).alloc (Nat.le_refl _) _, by simp⟩ ?_
  rintro w1 ⟨x1, b1, l1⟩
  have z1 : w1.cell? ⟨w.heap.size, 0, none⟩ = some (.slice A n c) := x1.cells 0
  have B1 := hid b1
  have B2 := hid (b1.alloc b1.size (.cells #[] 3))
  have HE := hid (show OwnI (w1.alloc (.cells #[] 3)) w.heap.size (.slice (some ⟨w1.heap.size, 0, none⟩) 0 0) [] from App.empty_own (heap1_0 w1 _) b1.size)
  clear x1 b1
  go_wp2_with fail
  refine (hq.out _ B2.out).mono ?_
  rintro e w2 ⟨rfl, b2⟩
  have O := hid (own_below HE.out b2 (Nat.le_refl _))
  have B := hid (B2.out.trans (b2.mono B2.out.size))
  clear b2
  go_wp2_with fail
  go_ret2
  exact ⟨_, _, by rw [hr.out] <;> rfl, by rw [hr.out]; exact O.out, B.out⟩
 | true =>
  obtain ⟨h1, h2, h3, h4, h5⟩ := range_num ha
  have hmid := hid (fun (q : Nat) (hq : low + q ≤ high) => range_mid ha hq)
  have hn6 := okProg_small (start_wf (n := n) h1).1
  have hru := hid (fun (q : Nat) (hq : low + q ≤ high) W (h : Below w.heap.size w W) => l2Run_any lo n c A p f (low + q) fuel hl (hn6.2.mono (by omega)) (by omega) (range_mid ha hq) W (ho.below h))
  have hrr := hid (fun (q : Nat) (hq : low + q ≤ high) => (show runR p f (low + q) fuel = (run p fuel f (low + q), true) by unfold runR; rw [range_mid ha hq]; rfl))
  rw [ha] at hq hr0
  have hr := hid (hr0.trans (if_pos rfl))
  have HLE := hid (fun q => pArgs_len p f low fuel q)
  have HYES := hid (fun (q : Nat) (h : (runR p f (low + q) fuel).1.kind = 2) => pArgs_yes h)
  have HNO := hid (fun (q : Nat) (h : (runR p f (low + q) fuel).1.kind ≠ 2) => pArgs_no h)
  clear ha ho hsm hr0 h1 hn6
  go_enter Try.func23, Try.ntmps23
  go_upto_region 1 with fail
  change (fun V => Code.wp _ _ _ _ V) _
  refine gen_world (X := fun V => Blk V w.heap.size 31 #[.slice A n c] ∧ Below w.heap.size w V ∧ w.heap.size < V.heap.size) ⟨heap1_0 w _, (Below.refl _ _).alloc (Nat.le_refl _) _, by simp⟩ ?_
  rintro w1 ⟨x1, b1, l1⟩
  have z1 : w1.cell? ⟨w.heap.size, 0, none⟩ = some (.slice A n c) := x1.cells 0
  have X1 := hid x1
  have B1 := hid b1
  have B2 := hid (show Below w1.heap.size w1 (w1.alloc (.cells #[] 3)) from (Below.refl _ _).alloc (Nat.le_refl _) _)
  have HE := hid (show OwnI (w1.alloc (.cells #[] 3)) w1.heap.size (.slice (some ⟨w1.heap.size, 0, none⟩) 0 0) [] from App.empty_own (heap1_0 w1 _) (Nat.le_refl _))
  clear x1 b1
  go_wp2_with fail
  refine (hq.out _ (B1.out.trans (B2.out.mono B1.out.size))).mono ?_
  rintro e w2 ⟨rfl, b2⟩
  have O2 := hid (own_below HE.out b2 (Nat.le_refl _))
  have C2 := hid (B2.out.trans (b2.mono B2.out.size))
  clear b2 B2 HE z1 hq
  go_wp2_with fail
  go_loopw [12, 13] (fun v i wr => ∃ (q : Nat) (A' : Option Addr) (c' : Nat), low + q ≤ high + 1 ∧ i = .int .i64 (low + q) ∧ v = .slice A' (pArgs p f low fuel q).length c' ∧ OwnI wr w1.heap.size (.slice A' (pArgs p f low fuel q).length c') (pArgs p f low fuel q) ∧ Below w1.heap.size w1 wr) (fun _ i _ => (high + 1 - intOf i).toNat)
  case atStart => exact ⟨0, _, _, by omega, by simp, rfl, O2.out, C2.out⟩
  case round =>
   obtain ⟨q, A', c', hq, rfl, rfl, hown, hb⟩ := hrel
   clear O2 C2
   have hlo := hb.size
   have hle := HLE.out q
   have HB := hid hb
   have O := hid hown
   have z1 : wr.cell? ⟨w.heap.size, 0, none⟩ = some (.slice A n c) := ((X1.out.below hb l1).cells 0)
   clear hb hown
   by_cases hlt : low + q ≤ high
   ·have HR := hid (hru.out q hlt wr (B1.out.trans (HB.out.mono B1.out.size)))
    have hk := hrr.out q hlt
    have hY := HYES.out q
    have hN := HNO.out q
    rw [hk] at hY hN
    dsimp only at hY hN
    generalize run p fuel f (low + q) = r at *
    obtain ⟨k, v, t, s⟩ := r
    have HY := hid hY
    have HN := hid hN
    clear hk hY hN
    go_wp2_with fail
    refine HR.out.mono ?_
    rintro e V ⟨A2, c2, rfl, ht, bV⟩
    unfold outval
    dsimp only
    have OV := hid (own_below O.out bV (Nat.le_refl _))
    have BV := hid (HB.out.trans (bV.mono hlo))
    have hlV := Nat.le_trans hlo bV.size
    clear ht bV z1 O HB HR
    have hf0 := fun u => out_field0 (.int .i64 k) (.int .i64 v) (.slice A2 t.length c2) (.int .i64 s) u
    by_cases k2 : k = 2
    ·subst k2
     have HX := hid (HY.out rfl)
     generalize pArgs p f low fuel q = x at *
     go_wp2_with (at_builtin; refine wpList_append_lies _ rfl _ _ 26 rfl w1.heap.size 3 i0 _ 1 8 Try.underlying26 hi hz0 hz1 hz2 rfl (by decide) _ _ _ rfl (World.ownsRow.alloc OV.out _) ⟨V.heap.size, 0, none⟩ 1 1 [.int .i64 (low + q)] rfl rfl ?cn_1 ?co_1 (by decide) ?c63_1 ?cb_1 ?cl_1 (V.heap.size + 1) ?cH_1 ?next_1)
     (try (case cn_1 => exact World.news_of_block (cs := #[.int .i64 (low + q)]) (t := 3) (fr := (0, 0)) (heap_alloc_new _ _)))
     case co_1 => first | (intro u hu; simp at hu; rcases hu with rfl; rfl) | simp [Value.oneCell']
     case c63_1 => first | (unfold maxLen; omega) | omega
     case cb_1 => omega
     case cl_1 => first | (simp; omega) | omega
     (try (case cH_1 => simp))
     case next_1 =>
      intro g2 cap2 w2' hown2 hgrow2 hat2 hlt2
      have c2' : Chg (fun y => (Value.slice A' x.length c').ownBlock = some y) V w2' := (Chg.alloc _ V _).trans (Chg.of_grown hgrow2) (fun x _ hx => hx.symm)
      have B2' := hid (BV.out.trans (c2'.below hlV (fun x hx e => by have := (World.ownsRow.lt OV.out x e).1; omega)))
      have O2 := hid hown2
      clear hown2 hgrow2 hat2 c2'
      go_wp2_with fail
      go_roundw
      case rel =>
       refine ⟨q + 1, some ⟨g2, 0, none⟩, cap2, by omega, by go_num, ?_, ?_, B2'.out⟩
       ·rw [HX.out, List.length_append, List.length_singleton]
       ·rw [HX.out]
        unfold OwnI
        rw [List.length_append, List.length_singleton, cellsI_append]
        exact O2.out
      case measure => simp [intOf]; omega
    ·have hcb : (k == 2) = false := by simpa using k2
     have HX := hid (HN.out k2)
     clear k2
     generalize pArgs p f low fuel q = x at *
     go_wp2_with fail
     go_roundw
     case rel => exact ⟨q + 1, A', c', by omega, by go_num, by rw [HX.out], by rw [HX.out]; exact OV.out, BV.out⟩
     case measure => simp [intOf]; omega
   ·have hqe : (high - low + 1).toNat = q := by omega
    have hcb : decide (low + (q : Int) ≤ high) = false := by simpa using hlt
    have HQ := hid hqe
    clear hqe hlt
    go_wp2_with fail
    go_ret2
    exact ⟨A', c', by rw [hr.out, HQ.out] <;> rfl, by rw [hr.out, HQ.out]; exact own_mono O.out (Nat.le_of_lt l1), B1.out.trans (HB.out.mono B1.out.size)⟩
set_option maxRecDepth 100000 in
set_option maxHeartbeats 4000000 in
theorem runAll_any (lo n c : Nat) (A : Option Addr) (p : Pg) (f low high fuel : Int) (hn : n ≤ 9223372036854775807) (hl : p.length = n) (hsm : Small p 9223372036854775807) (w : World) (ho : OwnP w lo (.slice A n c) p) :
  Calls Try.prog 42 #[.agg #[.slice A n c], .int .i64 f, .int .i64 low, .int .i64 high, .int .i64 fuel] w fun e w' => e = .returned (.bool (rangeOk p f low high fuel)) ∧ Below w.heap.size w w' := by
 have hq := hid (fun W (h : Below w.heap.size w W) => canRun_any w.heap.size A n c p f low fuel hn hl hsm W (ho.rd.below h) h.size)
 have hN := hid (fun W => Stp.isNumber_any high W)
 have HALs := hid (show Below w.heap.size w (w.alloc (.cells #[.slice A n c] 31)) from (Below.refl _ _).alloc (Nat.le_refl _) _)
 have hnum : asks p f low fuel = true → -32768 ≤ low ∧ low ≤ 32767 := asks_num
 have hs : rangeOk p f low high fuel = (asks p f low fuel && (isNum high && btw (high - low) 0 100)) := rfl
 generalize rangeOk p f low high fuel = R at *
 clear ho hsm
 cases h1 : asks p f low fuel with
 | false =>
  rw [h1] at hq hs
  have HS := hid (show R = false by rw [hs]; rfl)
  clear hs hnum h1
  go_enter Try.func42, Try.ntmps42
  go_wp2_with fail
  refine (hq.out _ HALs.out).mono ?_
  rintro e w1 ⟨rfl, b1⟩
  go_wp2_with fail
  go_ret
  exact ⟨by rw [HS.out]; rfl, HALs.out.trans (b1.mono HALs.out.size)⟩
 | true =>
  obtain ⟨hl1, hl2⟩ := hnum h1
  rw [h1] at hq hs
  cases h2 : isNum high with
  | false =>
   rw [h2] at hN hs
   have HS := hid (show R = false by rw [hs]; rfl)
   clear hs hnum h1 h2
   go_enter Try.func42, Try.ntmps42
   go_wp2_with fail
   refine (hq.out _ HALs.out).mono ?_
   rintro e w1 ⟨rfl, b1⟩
   go_wp2_with fail
   refine (hN.out _).mono ?_
   rintro e w2 ⟨rfl, rfl⟩
   go_wp2_with fail
   go_ret
   exact ⟨by rw [HS.out]; rfl, HALs.out.trans (b1.mono HALs.out.size)⟩
  | true =>
   have hh : -32768 ≤ high ∧ high ≤ 32767 := by unfold isNum at h2; simpa using h2
   obtain ⟨hh1, hh2⟩ := hh
   rw [h2] at hN hs
   have hRv : R = (decide (low ≤ high) && decide (high ≤ low + 100)) := by
    rw [hs]; unfold btw
    by_cases a : low ≤ high <;> by_cases b : high ≤ low + 100 <;> simp [a, b] <;> omega
   by_cases ha : low ≤ high
   ·by_cases hb : high ≤ low + 100
    ·have HS := hid (show R = true by rw [hRv, decide_eq_true ha, decide_eq_true hb]; rfl)
     have c1 : decide (low ≤ high) = true := decide_eq_true ha
     have c2 : decide (high ≤ low + 100) = true := decide_eq_true hb
     clear hs hnum h1 h2 hRv
     go_enter Try.func42, Try.ntmps42
     go_wp2_with fail
     refine (hq.out _ HALs.out).mono ?_
     rintro e w1 ⟨rfl, b1⟩
     go_wp2_with fail
     refine (hN.out _).mono ?_
     rintro e w2 ⟨rfl, rfl⟩
     go_wp2_with fail
     go_ret
     exact ⟨by rw [HS.out]; rfl, HALs.out.trans (b1.mono HALs.out.size)⟩
    ·have HS := hid (show R = false by rw [hRv, decide_eq_false hb]; simp)
     have c1 : decide (low ≤ high) = true := decide_eq_true ha
     have c2 : decide (high ≤ low + 100) = false := decide_eq_false hb
     clear hs hnum h1 h2 hRv
     go_enter Try.func42, Try.ntmps42
     go_wp2_with fail
     refine (hq.out _ HALs.out).mono ?_
     rintro e w1 ⟨rfl, b1⟩
     go_wp2_with fail
     refine (hN.out _).mono ?_
     rintro e w2 ⟨rfl, rfl⟩
     go_wp2_with fail
     go_ret
     exact ⟨by rw [HS.out]; rfl, HALs.out.trans (b1.mono HALs.out.size)⟩
   ·have HS := hid (show R = false by rw [hRv, decide_eq_false ha]; rfl)
    have c1 : decide (low ≤ high) = false := decide_eq_false ha
    clear hs hnum h1 h2 hRv
    go_enter Try.func42, Try.ntmps42
    go_wp2_with fail
    refine (hq.out _ HALs.out).mono ?_
    rintro e w1 ⟨rfl, b1⟩
    go_wp2_with fail
    refine (hN.out _).mono ?_
    rintro e w2 ⟨rfl, rfl⟩
    go_wp2_with fail
    go_ret
    exact ⟨by rw [HS.out]; rfl, HALs.out.trans (b1.mono HALs.out.size)⟩
def RunsR (r : List Int × Bool) (vs : List Int) (w : World) (e : Ending) (w' : World) : Prop :=
 ∃ A1 c1 A2 c2, e = .returned (.tuple #[.slice A1 r.1.length c1, .slice A2 vs.length c2, .bool r.2]) ∧ OwnI w' w.heap.size (.slice A1 r.1.length c1) r.1 ∧ OwnI w' w.heap.size (.slice A2 vs.length c2) vs ∧ Below w.heap.size w w'
def pvalL (p : Pg) (f low high fuel : Int) : List Int := if rangeOk p f low high fuel = true then pVals p f low fuel (high - low + 1).toNat else []
def Ap (a b : Value) : Prop := ∀ k, a.ownBlock = some k → b.ownBlock ≠ some k
set_option maxRecDepth 100000 in
set_option maxHeartbeats 8000000 in
theorem runs_any (lo n c : Nat) (A : Option Addr) (p : Pg) (f low high fuel : Int) (hn : n ≤ 9223372036854775807) (hl : p.length = n) (hsm : Small p 9223372036854775807) (w : World) (ho : OwnP w lo (.slice A n c) p) :
  Calls Try.prog 54 #[.agg #[.slice A n c], .int .i64 f, .int .i64 low, .int .i64 high, .int .i64 fuel] w (RunsR (pargR p f low high fuel) (pvalL p f low high fuel) w) := by
 obtain ⟨i0, hi, hz0, hz1, hz2⟩ := info_parts info3
 have hq := hid (fun W (h : Below w.heap.size w W) => runAll_any lo n c A p f low high fuel hn hl hsm W (ho.below h))
 have hrn := range_num (p := p) (f := f) (low := low) (high := high) (fuel := fuel)
 have hr0 : pargR p f low high fuel = if rangeOk p f low high fuel = true then (pArgs p f low fuel (high - low + 1).toNat, true) else ([], false) := rfl
 have hv0 : pvalL p f low high fuel = if rangeOk p f low high fuel = true then pVals p f low fuel (high - low + 1).toNat else [] := rfl
 have hru := hid (fun (q : Nat) W (h : Below w.heap.size w W) => runI_any lo n c A p f (low + q) fuel hn hl hsm W (ho.below h))
 have HLE := hid (fun q => pArgs_len p f low fuel q)
 have HLV := hid (fun q => pVals_len p f low fuel q)
 have HYES := hid (fun (q : Nat) (h : (runR p f (low + q) fuel).1.kind = 2) => And.intro (pArgs_yes h) (pVals_yes h))
 have HNO := hid (fun (q : Nat) (h : (runR p f (low + q) fuel).1.kind ≠ 2) => And.intro (pArgs_no h) (pVals_no h))
 have HR0 := hid hr0
 have HV0 := hid hv0
 clear ho hsm hr0 hv0
 go_enter Try.func54, Try.ntmps54
 go_upto_region 1 with fail
 change (fun V => Code.wp _ _ _ _ V) _
 refine gen_world (X := fun V => Blk V w.heap.size 31 #[.slice A n c] ∧ Below w.heap.size w V ∧ w.heap.size < V.heap.size) ⟨heap1_0 w _, (Below.refl _ _).alloc (Nat.le_refl _) _, by simp⟩ ?_
 rintro w1 ⟨x1, b1, l1⟩
 have X1 := hid x1
 have B1 := hid b1
 clear x1 b1
 go_upto_region 2 with fail
 change (fun V => Code.wp _ _ _ _ V) _
 refine gen_world (X := fun V => OwnI V w1.heap.size (.slice (some ⟨w1.heap.size, 0, none⟩) 0 0) [] ∧ OwnI V w1.heap.size (.slice (some ⟨w1.heap.size + 1, 0, none⟩) 0 0) [] ∧ Below w1.heap.size w1 V) ⟨App.empty_own (heap2_0 w1 _ _) (Nat.le_refl _), App.empty_own (heap2_1 w1 _ _) (by omega), ((Below.refl _ _).alloc (Nat.le_refl _) _).alloc (by simp) _⟩ ?_
 rintro w2 ⟨o1, o2, b2⟩
 have O1 := hid o1
 have O2 := hid o2
 have B2 := hid b2
 have HAP := hid (show Ap (.slice (some ⟨w1.heap.size, 0, none⟩) 0 0) (.slice (some ⟨w1.heap.size + 1, 0, none⟩) 0 0) from fun k h h' => by
  simp only [Value.ownBlock, Option.some.injEq] at h h'
  omega)
 have z1 : w2.cell? ⟨w.heap.size, 0, none⟩ = some (.slice A n c) := ((X1.out.below b2 l1).cells 0)
 clear o1 o2 b2
 generalize (some ⟨w1.heap.size, 0, none⟩ : Option Addr) = E1 at *
 generalize (some ⟨w1.heap.size + 1, 0, none⟩ : Option Addr) = E2 at *
 cases h1 : rangeOk p f low high fuel with
 | false =>
  rw [h1] at hq
  have HS := hid h1
  clear hrn h1
  go_wp2_with fail
  refine (hq.out _ (B1.out.trans (B2.out.mono B1.out.size))).mono ?_
  rintro e w3 ⟨rfl, b3⟩
  have P1 := hid (own_mono (B' := w.heap.size) (own_below O1.out b3 (Nat.le_refl _)) (Nat.le_of_lt l1))
  have P2 := hid (own_mono (B' := w.heap.size) (own_below O2.out b3 (Nat.le_refl _)) (Nat.le_of_lt l1))
  have P3 := hid ((B1.out.trans (B2.out.mono B1.out.size)).trans (b3.mono (B1.out.trans (B2.out.mono B1.out.size)).size))
  clear b3
  go_wp2_with fail
  go_ret3
  exact ⟨E1, 0, E2, 0, by rw [HR0.out, HV0.out, HS.out] <;> rfl, by rw [HR0.out, HS.out]; exact P1.out, by rw [HV0.out, HS.out]; exact P2.out, P3.out⟩
 | true =>
  obtain ⟨hask, hl1, hb1, hh2, hb2⟩ := hrn h1
  have hl2 : low ≤ 32767 := by omega
  have hh1 : -32768 ≤ high := by omega
  rw [h1] at hq
  have HS := hid h1
  clear h1 hask hrn
  go_wp2_with fail
  refine (hq.out _ (B1.out.trans (B2.out.mono B1.out.size))).mono ?_
  rintro e w3 ⟨rfl, b3⟩
  have P1 := hid (own_below O1.out b3 (Nat.le_refl _))
  have P2 := hid (own_below O2.out b3 (Nat.le_refl _))
  have P3 := hid (B2.out.trans (b3.mono B2.out.size))
  clear b3 O1 O2 B2 z1
  go_wp2_with fail
  go_loopw [13, 14, 15] (fun v u i wr => ∃ (q : Nat) (A1 : Option Addr) (c1 : Nat) (A2 : Option Addr) (c2 : Nat), low + q ≤ high + 1 ∧ i = .int .i64 (low + q) ∧ v = .slice A1 (pArgs p f low fuel q).length c1 ∧ u = .slice A2 (pVals p f low fuel q).length c2 ∧
   OwnI wr w1.heap.size (.slice A1 (pArgs p f low fuel q).length c1) (pArgs p f low fuel q) ∧ OwnI wr w1.heap.size (.slice A2 (pVals p f low fuel q).length c2) (pVals p f low fuel q) ∧ Ap (.slice A1 (pArgs p f low fuel q).length c1) (.slice A2 (pVals p f low fuel q).length c2) ∧ Below w1.heap.size w1 wr) (fun _ _ i _ => (high + 1 - intOf i).toNat)
  case atStart => exact ⟨0, E1, 0, E2, 0, by omega, by simp, rfl, rfl, P1.out, P2.out, HAP.out, P3.out⟩
  case round =>
   obtain ⟨q, A1, d1, A2, d2, hq, rfl, rfl, rfl, o1, o2, hap, hb⟩ := hrel
   clear P1 P2 P3 HAP
   have hlo := hb.size
   have hle := HLE.out q
   have hle2 := HLV.out q
   have HB := hid hb
   have O1 := hid o1
   have O2 := hid o2
   have AP := hid hap
   have z1 : wr.cell? ⟨w.heap.size, 0, none⟩ = some (.slice A n c) := ((X1.out.below hb l1).cells 0)
   clear hb o1 o2 hap
   by_cases hlt : low + q ≤ high
   ·have HR := hid (hru.out q wr (B1.out.trans (HB.out.mono B1.out.size)))
    have HY := HYES.out q
    have HN := HNO.out q
    generalize runR p f (low + q) fuel = r at *
    obtain ⟨⟨k, v, t, s⟩, b⟩ := r
    dsimp only at HY HN
    have HY := hid HY
    have HN := hid HN
    go_wp2_with fail
    refine HR.out.mono ?_
    rintro e V ⟨A3, c3, rfl, ht, bV⟩
    unfold outval
    dsimp only
    have V1 := hid (own_below O1.out bV (Nat.le_refl _))
    have V2 := hid (own_below O2.out bV (Nat.le_refl _))
    have BV := hid (HB.out.trans (bV.mono hlo))
    clear ht bV z1 O1 O2 HB HR
    go_upto_region 8 with fail
    change (fun V => Code.wp _ _ _ _ V) _
    refine gen_world (X := fun Z => Blk Z V.heap.size 59 #[.int .i64 k, .int .i64 v, .slice A3 t.length c3, .int .i64 s] ∧ OwnI Z w1.heap.size (.slice A1 (pArgs p f low fuel q).length d1) (pArgs p f low fuel q) ∧ OwnI Z w1.heap.size (.slice A2 (pVals p f low fuel q).length d2) (pVals p f low fuel q) ∧ Below w1.heap.size w1 Z) ⟨heap1_0 V _, own_below V1.out ((Below.refl _ _).alloc (Nat.le_refl _) _) (Nat.le_refl _), own_below V2.out ((Below.refl _ _).alloc (Nat.le_refl _) _) (Nat.le_refl _), BV.out.alloc BV.out.size _⟩ ?_
    clear V1 V2 BV
    generalize V.heap.size = bx
    rintro Z ⟨eZ, o1, o2, bZ⟩
    have y0 : Z.cell? ⟨bx, 0, none⟩ = some (.int .i64 k) := eZ.cells 0
    have EZ := hid eZ
    have O1 := hid o1
    have O2 := hid o2
    have BZ := hid bZ
    have hlz := bZ.size
    clear eZ o1 o2 bZ
    by_cases k2 : k = 2
    ·subst k2
     obtain ⟨hx1, hx2⟩ := HY.out rfl
     have HX1 := hid hx1
     have HX2 := hid hx2
     clear hx1 hx2
     generalize pArgs p f low fuel q = x at *
     generalize pVals p f low fuel q = y at *
     go_wp2_with (at_builtin; refine wpList_append_lies _ rfl _ _ 26 rfl w1.heap.size 3 i0 _ 1 8 Try.underlying26 hi hz0 hz1 hz2 rfl (by decide) _ _ _ rfl (World.ownsRow.alloc O1.out _) ⟨Z.heap.size, 0, none⟩ 1 1 [.int .i64 (low + q)] rfl rfl ?cn_2 ?co_2 (by decide) ?c63_2 ?cb_2 ?cl_2 (Z.heap.size + 1) ?cH_2 ?next_2)
     (try (case cn_2 => exact World.news_of_block (cs := #[.int .i64 (low + q)]) (t := 3) (fr := (0, 0)) (heap_alloc_new _ _)))
     case co_2 => first | (intro u hu; simp at hu; rcases hu with rfl; rfl) | simp [Value.oneCell']
     case c63_2 => first | (unfold maxLen; omega) | omega
     case cb_2 => omega
     case cl_2 => first | (simp; omega) | omega
     (try (case cH_2 => simp))
     case next_2 =>
      intro g2 cap2 Z2 hown2 hgrow2 hat2 hlt2
      have c2' : Chg (fun z => (Value.slice A1 x.length d1).ownBlock = some z) Z Z2 := (Chg.alloc _ Z _).trans (Chg.of_grown hgrow2) (fun x _ hx => hx.symm)
      have BZ2 := hid (BZ.out.trans (c2'.below hlz (fun x hx e => by have := (World.ownsRow.lt O1.out x e).1; omega)))
      have hlz2 := BZ2.out.size
      have y1 : Z2.cell? ⟨bx, 1, none⟩ = some (.int .i64 v) := (EZ.out.chg c2' (blk_apart O1.out EZ.out (by decide))).cells 1
      have OZ1 := hid hown2
      have OZ2 := hid (own_chg O2.out c2' (fun k hk e => AP.out k e hk))
      have AP2 := hid (show Ap (.slice (some ⟨g2, 0, none⟩) (x.length + 1) cap2) (.slice A2 y.length d2) from fun k h h' => by
       have e1 : g2 = k := by simpa [Value.ownBlock] using h
       rcases hat2 with h3 | h3
       ·exact AP.out g2 h3 (h'.trans (by rw [e1]))
       ·have := (World.ownsRow.lt O2.out k h').2
        omega)
      clear hown2 hgrow2 hat2 c2' y0 O1 O2 AP BZ EZ
      go_wp2_with (at_builtin; refine wpList_append_lies _ rfl _ _ 26 rfl w1.heap.size 3 i0 _ 1 8 Try.underlying26 hi hz0 hz1 hz2 rfl (by decide) _ _ _ rfl (World.ownsRow.alloc OZ2.out _) ⟨Z2.heap.size, 0, none⟩ 1 1 [.int .i64 v] rfl rfl ?cn_3 ?co_3 (by decide) ?c63_3 ?cb_3 ?cl_3 (Z2.heap.size + 1) ?cH_3 ?next_3)
      (try (case cn_3 => exact World.news_of_block (cs := #[.int .i64 v]) (t := 3) (fr := (0, 0)) (heap_alloc_new _ _)))
      case co_3 => first | (intro u hu; simp at hu; rcases hu with rfl; rfl) | simp [Value.oneCell']
      case c63_3 => first | (unfold maxLen; omega) | omega
      case cb_3 => omega
      case cl_3 => first | (simp; omega) | omega
      (try (case cH_3 => simp))
      case next_3 =>
       intro g3 cap3 w3' hown3 hgrow3 hat3 hlt3
       have c3' : Chg (fun z => (Value.slice A2 y.length d2).ownBlock = some z) Z2 w3' := (Chg.alloc _ Z2 _).trans (Chg.of_grown hgrow3) (fun x _ hx => hx.symm)
       have B3' := hid (BZ2.out.trans (c3'.below hlz2 (fun x hx e => by have := (World.ownsRow.lt OZ2.out x e).1; omega)))
       have O3 := hid hown3
       have O4 := hid (own_chg OZ1.out c3' (fun k hk e => AP2.out k hk e))
       have AP3 := hid (show Ap (.slice (some ⟨g2, 0, none⟩) (x.length + 1) cap2) (.slice (some ⟨g3, 0, none⟩) (y.length + 1) cap3) from fun k h h' => by
        have e1 : g2 = k := by simpa [Value.ownBlock] using h
        have e2 : g3 = k := by simpa [Value.ownBlock] using h'
        rcases hat3 with h3 | h3
        ·exact AP2.out g2 rfl (h3.trans (by rw [e2, e1]))
        ·omega)
       clear hown3 hgrow3 hat3 c3'
       go_wp2_with fail
       go_roundw
       case rel =>
        refine ⟨q + 1, some ⟨g2, 0, none⟩, cap2, some ⟨g3, 0, none⟩, cap3, by omega, by go_num, ?_, ?_, ?_, ?_, ?_, B3'.out⟩
        ·rw [HX1.out, List.length_append, List.length_singleton]
        ·rw [HX2.out, List.length_append, List.length_singleton]
        ·rw [HX1.out]
         unfold OwnI
         rw [List.length_append, List.length_singleton, cellsI_append]
         exact O4.out
        ·rw [HX2.out]
         unfold OwnI
         rw [List.length_append, List.length_singleton, cellsI_append]
         exact O3.out
        ·rw [HX1.out, HX2.out, List.length_append, List.length_append, List.length_singleton, List.length_singleton]
         exact AP3.out
       case measure => simp [intOf]; omega
    ·have hcb : (k == 2) = false := by simpa using k2
     obtain ⟨hx1, hx2⟩ := HN.out k2
     have HX1 := hid hx1
     have HX2 := hid hx2
     clear k2 hx1 hx2
     generalize pArgs p f low fuel q = x at *
     generalize pVals p f low fuel q = y at *
     go_wp2_with fail
     go_roundw
     case rel => exact ⟨q + 1, A1, d1, A2, d2, by omega, by go_num, by rw [HX1.out], by rw [HX2.out], by rw [HX1.out]; exact O1.out, by rw [HX2.out]; exact O2.out, by rw [HX1.out, HX2.out]; exact AP.out, BZ.out⟩
     case measure => simp [intOf]; omega
   ·have hqe : (high - low + 1).toNat = q := by omega
    have hcb : decide (low + (q : Int) ≤ high) = false := by simpa using hlt
    have HQ := hid hqe
    clear hqe hlt
    go_wp2_with fail
    go_ret3
    exact ⟨A1, d1, A2, d2, by rw [HR0.out, HV0.out, HS.out, if_pos rfl, if_pos rfl, HQ.out] <;> rfl, by rw [HR0.out, HS.out, if_pos rfl, HQ.out]; exact own_mono O1.out (Nat.le_of_lt l1), by rw [HV0.out, HS.out, if_pos rfl, HQ.out]; exact own_mono O2.out (Nat.le_of_lt l1), B1.out.trans (HB.out.mono B1.out.size)⟩
theorem pargI_any (lo n c : Nat) (A : Option Addr) (p : Pg) (f low high fuel : Int) (hn : n ≤ 9223372036854775807) (hl : p.length = n) (hsm : Small p 9223372036854775807) (w : World) (ho : OwnP w lo (.slice A n c) p) :
  Calls Try.prog 24 #[.agg #[.slice A n c], .int .i64 f, .int .i64 low, .int .i64 high, .int .i64 fuel] w (IntsR (pargR p f low high fuel) w) := by
 have hq := hid (fun W (h : Below w.heap.size w W) => runs_any lo n c A p f low high fuel hn hl hsm W (ho.below h))
 have HALs := hid (show Below w.heap.size w (w.alloc (.cells #[.slice A n c] 31)) from (Below.refl _ _).alloc (Nat.le_refl _) _)
 generalize pargR p f low high fuel = r at *
 generalize pvalL p f low high fuel = vs at *
 obtain ⟨xs, b⟩ := r
 unfold RunsR at hq
 dsimp only at hq
 clear ho hsm
 go_enter Try.func24, Try.ntmps24
 go_wp2_with fail
 refine (hq.out _ HALs.out).mono ?_
 rintro e w2 ⟨A1, c1, A2, c2, rfl, o1, o2, b2⟩
 have O1 := hid (own_mono (B' := w.heap.size) o1 HALs.out.size)
 have B2 := hid (HALs.out.trans (b2.mono HALs.out.size))
 clear o1 o2 b2 hq
 go_wp2_with fail
 go_ret2
 exact ⟨A1, c1, rfl, O1.out, B2.out⟩
end Go.Proofs.Ytikdcnlbjpabjab.Prg
-- squeezed
