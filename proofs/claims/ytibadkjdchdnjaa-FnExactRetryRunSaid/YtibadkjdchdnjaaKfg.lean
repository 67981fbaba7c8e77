import Derived.Test.YtibadkjdchdnjaaKpp
import Derived.Test.YtibadkjdchdnjaaRng
import Derived.Test.YtibadkjdchdnjaaIrp
import Derived.Test.YtibadkjdchdnjaaM2
set_option linter.all false
namespace Go.Proofs.Ytibadkjdchdnjaa.Kfg
open Lib (hid)
open Go.ChangeShapes Go.WideShapes Go.ChangeAt Go.RowKit
open PL Mem Srun Sst To OwnS AskP StpS Res Swhole Sout Irp RunF IntsP LawI LawN PArgP Rng Kpp
def runV (g : Nat) : Value := .func (.func 97) #[] #[.pointer (some ⟨g, 0, none⟩), .pointer (some ⟨g + 1, 0, none⟩), .pointer (some ⟨g + 2, 0, none⟩)]
structure RunB (W : World) (g : Nat) (A : Option Addr) (n c : Nat) (f fuel : Int) : Prop where
 p : Blk W g 44 #[.slice A n c]
 f : Blk W (g + 1) 3 #[.int .i64 f]
 u : Blk W (g + 2) 3 #[.int .i64 fuel]
theorem RunB.lt {W : World} {g n c : Nat} {A : Option Addr} {f fuel : Int} (h : RunB W g A n c f fuel) : g + 2 < W.heap.size := h.u.lt
theorem RunB.below {W W' : World} {g n c B : Nat} {A : Option Addr} {f fuel : Int} (h : RunB W g A n c f fuel) (b : Below B W W') (hB : g + 2 < B) : RunB W' g A n c f fuel :=
 ⟨h.p.below b (by omega), h.f.below b (by omega), h.u.below b hB⟩
theorem runOf_any (A : Option Addr) (n c : Nat) (f fuel : Int) (w : World) :
  Calls Try.prog 64 #[.agg #[.slice A n c], .int .i64 f, .int .i64 fuel] w fun e w' => e = .returned (runV w.heap.size) ∧ RunB w' w.heap.size A n c f fuel ∧ Below w.heap.size w w' := by
 have HB := hid (show RunB (((w.alloc (.cells #[.slice A n c] 44)).alloc (.cells #[.int .i64 f] 3)).alloc (.cells #[.int .i64 fuel] 3)) w.heap.size A n c f fuel from ⟨heap3_0 _ _ _ _, heap3_1 _ _ _ _, heap3_2 _ _ _ _⟩)
 have HL := hid (show Below w.heap.size w (((w.alloc (.cells #[.slice A n c] 44)).alloc (.cells #[.int .i64 f] 3)).alloc (.cells #[.int .i64 fuel] 3)) from ((((Below.refl _ _).alloc (Nat.le_refl _) _).alloc (by simp) _).alloc (by simp <;> omega) _))
 go_enter Try.func64, Try.ntmps64
 go_wp2_with fail
 go_ret
 exact ⟨rfl, HB.out, HL.out⟩
set_option maxRecDepth 100000 in
set_option maxHeartbeats 4000000 in
theorem runOf1_any (lo n c g : Nat) (A : Option Addr) (p : Pg) (f arg fuel : Int) (hn : n ≤ 9223372036854775807) (hl : p.length = n) (hsm : Small p 9223372036854775807) (ha : asks p f arg fuel = true) (w : World) (ho : OwnP w lo (.slice A n c) p) (hb : RunB w g A n c f fuel) :
  Calls Try.prog 97 #[.int .i64 arg, .pointer (some ⟨g, 0, none⟩), .pointer (some ⟨g + 1, 0, none⟩), .pointer (some ⟨g + 2, 0, none⟩)] w (RunR (run p fuel f arg) w) := by
 have hru := hid (fun W (h : Below w.heap.size w W) => runI_any lo n c A p f arg fuel hn hl hsm W (ho.below h))
 have hr := hid (runR_yes ha)
 have HB := hid hb
 have hlt := hb.lt
 generalize run p fuel f arg = r at *
 clear ho ha hsm hb
 go_enter Try.func97, Try.ntmps97
 go_upto_region 1 with fail
 change (fun V => Code.wp _ _ _ _ V) _
 refine gen_world (X := fun V => Blk V w.heap.size 39 #[.int .i64 0, .int .i64 0, .slice none 0 0, .int .i64 0] ∧ Below w.heap.size w V) ⟨heap1_0 w _, (Below.refl _ _).alloc (Nat.le_refl _) _⟩ ?_
 rintro w1 ⟨x1, b1⟩
 have RB := HB.out.below b1 hlt
 have z0 : w1.cell? ⟨g, 0, none⟩ = some (.slice A n c) := RB.p.cells 0
 have z1 : w1.cell? ⟨g + 1, 0, none⟩ = some (.int .i64 f) := RB.f.cells 0
 have z2 : w1.cell? ⟨g + 2, 0, none⟩ = some (.int .i64 fuel) := RB.u.cells 0
 have X1 := hid x1
 have B1 := hid b1
 clear x1 b1 RB
 go_wp2_with fail
 refine (hru.out _ B1.out).mono ?_
 rintro e w2 ⟨A2, c2, rfl, ht, b2⟩
 rw [hr.out] at ht ⊢
 unfold outval
 have X2 := hid (X1.out.below b2 X1.out.lt)
 have HT := hid (own_mono ht (B1.out.size))
 have B2 := hid (B1.out.trans (b2.mono B1.out.size))
 clear ht b2 z0 z1 z2 hru
 dsimp only
 go_upto_region 2 with fail
 change (fun V => Code.wp _ _ _ _ V) _
 refine gen_world (X := fun V => Blk V w2.heap.size 39 #[.int .i64 r.kind, .int .i64 r.value, .slice A2 r.trace.length c2, .int .i64 r.spent] ∧ Blk V w.heap.size 39 #[.int .i64 0, .int .i64 0, .slice none 0 0, .int .i64 0] ∧ Tre V w.heap.size (.slice A2 r.trace.length c2) r.trace ∧ Below w.heap.size w V)
  ⟨heap1_0 w2 _, X2.out.alloc _, World.ownsRow.alloc HT.out _, B2.out.alloc B2.out.size _⟩ ?_
 clear X1 X2 HT B1 B2 HB
 rintro V ⟨v1, v2, v3, v4⟩
 have z1 := v1.cells
 have z2 := v2.cells
 have f2 := v2.frozen
 have V2 := hid v2
 have V3 := hid v3
 have V4 := hid v4
 clear v1 v2 v3 v4
 go_wp2_with fail
 refine gen_post (X := fun V => Blk V w.heap.size 39 #[.int .i64 r.kind, .int .i64 r.value, .slice A2 r.trace.length c2, .int .i64 r.spent] ∧ Tre V w.heap.size (.slice A2 r.trace.length c2) r.trace ∧ Below w.heap.size w V) ?_ ?_
 ·have n2 := blk_apart V3.out V2.out (by decide)
  refine ⟨Blk.set4 V2.out _ _ _ _, ?_, ?_⟩
  ·iterate 4 refine own_far ?_ _ _ n2
   exact V3.out
  ·iterate 4 refine Below.setCell ?_ (by exact Nat.le_refl _) _
   exact V4.out
 clear z1 z2 f2 V2 V3 V4
 rintro V ⟨v1, v2⟩
 have V1 := v1.cells
 have HV := hid v2
 clear v1 v2
 exact bodyPost_ret (v := .agg #[.int .i64 r.kind, .int .i64 r.value, .slice A2 r.trace.length c2, .int .i64 r.spent]) (by simp [results, Try.results97, go_sem, V1]) rfl ⟨A2, c2, rfl, HV.out.1, HV.out.2⟩
set_option maxRecDepth 100000 in
set_option maxHeartbeats 4000000 in
theorem goodS_any (lo n c : Nat) (A : Option Addr) (p : Pg) (f low high fuel : Int) (hn : n ≤ 9223372036854775807) (hl : p.length = n) (hsm : Small p 9223372036854775807) (w : World) (ho : OwnP w lo (.slice A n c) p) :
  Calls Try.prog 32 #[.agg #[.slice A n c], .int .i64 f, .int .i64 low, .int .i64 high, .int .i64 fuel] w (NumR (goodR p f low high fuel) w) := by
 have hq := hid (fun W (h : Below w.heap.size w W) => l4Range_any w.heap.size A n c p f low high fuel hn hl hsm W (ho.rd.below h) h.size)
 have hr0 : goodR p f low high fuel = if rangeOk p f low high fuel = true then fgGo p f low fuel (high - low + 1).toNat 0 else (0, false) := rfl
 cases ha : rangeOk p f low high fuel with
 | false =>
  rw [ha] at hq hr0
  have hr := hid (hr0.trans (if_neg (by decide)))
  clear ha ho hsm hr0
  go_enter Try.func32, Try.ntmps32
  go_wp2_with fail
  refine (hq.out _ ((Below.refl _ _).alloc (Nat.le_refl _) _)).mono ?_
  rintro e w1 ⟨rfl, b1⟩
  have B1 := hid (((Below.refl _ _).alloc (Nat.le_refl _) _).trans (b1.mono (by simp)))
  clear b1
  go_wp2_with fail
  go_ret2
  exact ⟨by rw [hr.out] <;> rfl, B1.out⟩
 | true =>
  obtain ⟨h1, h2, h3, h4, h5⟩ := range_num ha
  have hn6 := okProg_small (start_wf (n := n) h1).1
  have hru := hid (fun (q : Nat) (hq : low + q ≤ high) W (h : Below w.heap.size w W) => l2Run_any lo n c A p f (low + q) fuel hl (hn6.2.mono (by omega)) (by omega) (range_mid ha hq) W (ho.below h))
  rw [ha] at hq hr0
  have hr := hid (hr0.trans (if_pos rfl))
  have HYES := hid (fun (l q : Nat) (h : (run p fuel f (low + q)).kind = 1) => fgGo_yes (l := l) h)
  have HNO := hid (fun (l q : Nat) (h : (run p fuel f (low + q)).kind ≠ 1) => fgGo_no (l := l) h)
  clear ha ho hsm hr0 h1 hn6
  go_enter Try.func32, Try.ntmps32
  go_upto_region 1 with fail
  change (fun V => Code.wp _ _ _ _ V) _
  refine gen_world (X := fun V => Blk V w.heap.size 44 #[.slice A n c] ∧ Below w.heap.size w V ∧ w.heap.size < V.heap.size) ⟨heap1_0 w _, (Below.refl _ _).alloc (Nat.le_refl _) _, by simp⟩ ?_
  rintro w1 ⟨x1, b1, l1⟩
  have z1 : w1.cell? ⟨w.heap.size, 0, none⟩ = some (.slice A n c) := x1.cells 0
  have X1 := hid x1
  have B1 := hid b1
  clear x1 b1
  go_wp2_with fail
  refine (hq.out _ B1.out).mono ?_
  rintro e w2 ⟨rfl, b2⟩
  have C2 := hid b2
  clear b2 z1 hq
  go_wp2_with fail
  go_loopw [12] (fun i wr => ∃ (q : Nat), low + q ≤ high + 1 ∧ i = .int .i64 (low + q) ∧ fgGo p f low fuel (high - low + 1).toNat 0 = fgGo p f low fuel (high - low + 1 - q).toNat q ∧ Below w1.heap.size w1 wr) (fun i _ => (high + 1 - intOf i).toNat)
  case atStart => exact ⟨0, by omega, by simp, by simp, C2.out⟩
  case round =>
   obtain ⟨q, hq, rfl, hgo, hb⟩ := hrel
   clear C2
   have hlo := hb.size
   have HB := hid hb
   have HG := hid hgo
   have z1 : wr.cell? ⟨w.heap.size, 0, none⟩ = some (.slice A n c) := ((X1.out.below hb l1).cells 0)
   clear hb hgo
   by_cases hlt : low + q ≤ high
   ·have HR := hid (hru.out q hlt wr (B1.out.trans (HB.out.mono B1.out.size)))
    obtain ⟨l, hl'⟩ : ∃ l, (high - low + 1 - q).toNat = l + 1 := ⟨(high - low - q).toNat, by omega⟩
    have hY := HYES.out l q
    have hN := HNO.out l q
    have hg2 := HG.out
    rw [hl'] at hg2
    have HL := hid (show (high - low + 1 - ((q + 1 : Nat) : Int)).toNat = l by omega)
    generalize run p fuel f (low + q) = r at *
    obtain ⟨k, v, t, s⟩ := r
    dsimp only at hY hN
    have HY := hid hY
    have HN := hid hN
    have HG2 := hid hg2
    clear hY hN hg2 hl' HG
    go_wp2_with fail
    refine HR.out.mono ?_
    rintro e V ⟨A2, c2, rfl, ht, bV⟩
    unfold outval
    dsimp only
    have BV := hid (HB.out.trans (bV.mono hlo))
    clear ht bV z1 HB HR
    have hf0 := fun u => out_field0 (.int .i64 k) (.int .i64 v) (.slice A2 t.length c2) (.int .i64 s) u
    by_cases k2 : k = 1
    ·subst k2
     have HX := hid (HG2.out.trans (HY.out rfl))
     clear HY HN
     go_wp2_with fail
     go_ret2
     exact ⟨by rw [hr.out, HX.out] <;> rfl, B1.out.trans (BV.out.mono B1.out.size)⟩
    ·have hcb : (k == 1) = false := by simpa using k2
     have HX := hid (HG2.out.trans (HN.out k2))
     clear k2 HY HN
     go_wp2_with fail
     go_roundw
     case rel => exact ⟨q + 1, by omega, by go_num, by rw [HX.out, HL.out], BV.out⟩
     case measure => simp [intOf]; omega
   ·have hqe : (high - low + 1 - q).toNat = 0 := by omega
    have hcb : decide (low + (q : Int) ≤ high) = false := by simpa using hlt
    have HQ := hid hqe
    clear hqe hlt
    go_wp2_with fail
    go_ret2
    exact ⟨by rw [hr.out, HG.out, HQ.out] <;> rfl, B1.out.trans (HB.out.mono B1.out.size)⟩
set_option maxRecDepth 100000 in
set_option maxHeartbeats 4000000 in
theorem goodI_any (lo n c : Nat) (A : Option Addr) (p : Pg) (f low high fuel : Int) (hn : n ≤ 9223372036854775807) (hl : p.length = n) (hsm : Small p 9223372036854775807) (w : World) (ho : OwnP w lo (.slice A n c) p) :
  Calls Try.prog 33 #[.agg #[.slice A n c], .int .i64 f, .int .i64 low, .int .i64 high, .int .i64 fuel] w (NumR (goodR p f low high fuel) w) := by
 have hq := hid (fun W (h : Below w.heap.size w W) => runAll_any lo n c A p f low high fuel hn hl hsm W (ho.below h))
 have hr0 : goodR p f low high fuel = if rangeOk p f low high fuel = true then fgGo p f low fuel (high - low + 1).toNat 0 else (0, false) := rfl
 cases ha : rangeOk p f low high fuel with
 | false =>
  rw [ha] at hq hr0
  have hr := hid (hr0.trans (if_neg (by decide)))
  clear ha ho hsm hr0
  go_enter Try.func33, Try.ntmps33
  go_wp2_with fail
  refine (hq.out _ ((Below.refl _ _).alloc (Nat.le_refl _) _)).mono ?_
  rintro e w1 ⟨rfl, b1⟩
  have B1 := hid (((Below.refl _ _).alloc (Nat.le_refl _) _).trans (b1.mono (by simp)))
  clear b1
  go_wp2_with fail
  go_ret2
  exact ⟨by rw [hr.out] <;> rfl, B1.out⟩
 | true =>
  obtain ⟨h1, h2, h3, h4, h5⟩ := range_num ha
  have hn6 := okProg_small (start_wf (n := n) h1).1
  have hru := hid (fun (g : Nat) (q : Nat) (hq : low + q ≤ high) W (h : Below w.heap.size w W) (hb : RunB W g A n c f fuel) => runOf1_any lo n c g A p f (low + q) fuel hn hl hsm (range_mid ha hq) W (ho.below h) hb)
  rw [ha] at hq hr0
  have hr := hid (hr0.trans (if_pos rfl))
  have HYES := hid (fun (l q : Nat) (h : (run p fuel f (low + q)).kind = 1) => fgGo_yes (l := l) h)
  have HNO := hid (fun (l q : Nat) (h : (run p fuel f (low + q)).kind ≠ 1) => fgGo_no (l := l) h)
  clear ha ho hsm hr0 h1 hn6
  go_enter Try.func33, Try.ntmps33
  go_upto_region 1 with fail
  change (fun V => Code.wp _ _ _ _ V) _
  refine gen_world (X := fun V => Blk V w.heap.size 44 #[.slice A n c] ∧ Below w.heap.size w V ∧ w.heap.size < V.heap.size) ⟨heap1_0 w _, (Below.refl _ _).alloc (Nat.le_refl _) _, by simp⟩ ?_
  rintro w1 ⟨x1, b1, l1⟩
  have z1 : w1.cell? ⟨w.heap.size, 0, none⟩ = some (.slice A n c) := x1.cells 0
  have X1 := hid x1
  have B1 := hid b1
  clear x1 b1
  go_wp2_with fail
  refine (hq.out _ B1.out).mono ?_
  rintro e w2 ⟨rfl, b2⟩
  have B2 := hid (B1.out.trans (b2.mono B1.out.size))
  have X2 := X1.out.below b2 l1
  have l2 := X2.lt
  have z2 : w2.cell? ⟨w.heap.size, 0, none⟩ = some (.slice A n c) := X2.cells 0
  clear b2 z1 hq X2 X1 l1
  go_wp2_with fail
  refine (runOf_any A n c f fuel _).mono ?_
  rintro e w3 ⟨rfl, rb, b3⟩
  have RB := hid rb
  have l3 := rb.lt
  have C3 := hid (B2.out.trans (b3.mono B2.out.size))
  clear rb b3 z2
  generalize w2.heap.size = g at *
  go_wp2_with fail
  go_loopw [13] (fun i wr => ∃ (q : Nat), low + q ≤ high + 1 ∧ i = .int .i64 (low + q) ∧ fgGo p f low fuel (high - low + 1).toNat 0 = fgGo p f low fuel (high - low + 1 - q).toNat q ∧ Below w3.heap.size w3 wr) (fun i _ => (high + 1 - intOf i).toNat)
  case atStart => exact ⟨0, by omega, by simp, by simp, Below.refl _ _⟩
  case round =>
   obtain ⟨q, hq, rfl, hgo, hb⟩ := hrel
   have hlo := hb.size
   have HB := hid hb
   have HG := hid hgo
   have HRB := hid (RB.out.below hb l3)
   clear hb hgo
   by_cases hlt : low + q ≤ high
   ·have HR := hid (hru.out g q hlt wr (C3.out.trans (HB.out.mono C3.out.size)) HRB.out)
    obtain ⟨l, hl'⟩ : ∃ l, (high - low + 1 - q).toNat = l + 1 := ⟨(high - low - q).toNat, by omega⟩
    have hY := HYES.out l q
    have hN := HNO.out l q
    have hg2 := HG.out
    rw [hl'] at hg2
    have HL := hid (show (high - low + 1 - ((q + 1 : Nat) : Int)).toNat = l by omega)
    generalize run p fuel f (low + q) = r at *
    obtain ⟨k, v, t, s⟩ := r
    dsimp only at hY hN
    have HY := hid hY
    have HN := hid hN
    have HG2 := hid hg2
    clear hY hN hg2 hl' HG
    unfold runV
    go_wp2_with fail
    refine HR.out.mono ?_
    rintro e V ⟨A2, c2, rfl, ht, bV⟩
    unfold outval
    dsimp only
    have BV := hid (HB.out.trans (bV.mono hlo))
    clear ht bV HB HR HRB
    have hf0 := fun u => out_field0 (.int .i64 k) (.int .i64 v) (.slice A2 t.length c2) (.int .i64 s) u
    by_cases k2 : k = 1
    ·subst k2
     have HX := hid (HG2.out.trans (HY.out rfl))
     clear HY HN
     go_wp2_with fail
     go_ret2
     exact ⟨by rw [hr.out, HX.out] <;> rfl, C3.out.trans (BV.out.mono C3.out.size)⟩
    ·have hcb : (k == 1) = false := by simpa using k2
     have HX := hid (HG2.out.trans (HN.out k2))
     clear k2 HY HN
     go_wp2_with fail
     go_roundw
     case rel => exact ⟨q + 1, by omega, by go_num, by rw [HX.out, HL.out], BV.out⟩
     case measure => simp [intOf]; omega
   ·have hqe : (high - low + 1 - q).toNat = 0 := by omega
    have hcb : decide (low + (q : Int) ≤ high) = false := by simpa using hlt
    have HQ := hid hqe
    clear hqe hlt
    go_wp2_with fail
    go_ret2
    exact ⟨by rw [hr.out, HG.out, HQ.out] <;> rfl, C3.out.trans (HB.out.mono C3.out.size)⟩
end Go.Proofs.Ytibadkjdchdnjaa.Kfg
-- squeezed
