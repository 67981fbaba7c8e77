import Derived.Test.YtibadkjdchdnjaaKpw
import Derived.Deep.RegionWith
set_option linter.all false
namespace Go.Proofs.Ytibadkjdchdnjaa.Krt
open Lib (hid)
open Go.ChangeShapes Go.WideShapes Go.ChangeAt Go.RowKit
open PL Mem Srun Sst To OwnS AskP StpS Res Swhole Sout IntsP LawI LawN PArgP Kpp Kpw
theorem l8Ends_any (k v s : Int) (At : Option Addr) (nt ct : Nat) (w : World) :
  Calls Try.prog 92 #[.agg #[.int .i64 k, .int .i64 v, .slice At nt ct, .int .i64 s]] w fun e w' => e = .returned (.bool (k == 1 || k == 3)) ∧ Below w.heap.size w w' := by
 by_cases h1 : k = 1
 ·subst h1
  go_enter Try.func92, Try.ntmps92
  go_wp2_with fail
  go_ret
  exact ⟨rfl, (Below.refl _ _).alloc (Nat.le_refl _) _⟩
 ·have hb1 : (k == 1) = false := by simpa using h1
  by_cases h3 : k = 3
  ·subst h3
   go_enter Try.func92, Try.ntmps92
   go_wp2_with fail
   go_ret
   exact ⟨rfl, (Below.refl _ _).alloc (Nat.le_refl _) _⟩
  ·have hb3 : (k == 3) = false := by simpa using h3
   have HS := hid (show (k == 1 || k == 3) = false by rw [hb1, hb3]; rfl)
   clear h1 h3
   generalize (k == 1 || k == 3) = b at *
   go_enter Try.func92, Try.ntmps92
   go_wp2_with fail
   go_ret
   exact ⟨by rw [HS.out] <;> rfl, (Below.refl _ _).alloc (Nat.le_refl _) _⟩
theorem chg_set4 {a w : World} {ob : Nat} (h : Chg (fun k => k = ob) a w) (u0 u1 u2 u3 : Value) : Chg (fun k => k = ob) a ((((w.setCell ⟨ob, 0, none⟩ u0).setCell ⟨ob, 1, none⟩ u1).setCell ⟨ob, 2, none⟩ u2).setCell ⟨ob, 3, none⟩ u3) :=
 (((h.put ⟨ob, 0, none⟩ u0 (.inr rfl)).put ⟨ob, 1, none⟩ u1 (.inr rfl)).put ⟨ob, 2, none⟩ u2 (.inr rfl)).put ⟨ob, 3, none⟩ u3 (.inr rfl)
theorem own_set4 {w : World} {lo ob : Nat} {v : Value} {t : List Tr} {cs : Array Value} (h : Tre w lo v t) (hb : Blk w ob 39 cs) (u0 u1 u2 u3 : Value) : Tre ((((w.setCell ⟨ob, 0, none⟩ u0).setCell ⟨ob, 1, none⟩ u1).setCell ⟨ob, 2, none⟩ u2).setCell ⟨ob, 3, none⟩ u3) lo v t := by
 have n2 := blk_apart h hb (by decide)
 unfold Tre at *
 iterate 4 refine own_far ?_ _ _ n2
 exact h
def RetL (o : Out) (m : Nat) (w : World) (e : Ending) (w' : World) : Prop :=
 ∃ A c, e = .returned (.tuple #[outval o (.slice A o.trace.length c), .int .i64 m]) ∧ Tre w' w.heap.size (.slice A o.trace.length c) o.trace ∧ Below w.heap.size w w'
def cellsO (o : Out) (tv : Value) : Array Value := #[.int .i64 o.kind, .int .i64 o.value, tv, .int .i64 o.spent]
set_option maxRecDepth 100000 in
set_option maxHeartbeats 8000000 in
theorem l8Retry_any (lo n c : Nat) (A : Option Addr) (p : Pg) (f arg fuel t : Int) (hl : p.length = n) (hsm : Small p 100) (hn : n ≤ 100) (ha : asks p f arg fuel = true) (ht1 : 1 ≤ t) (ht2 : t ≤ 20) (w : World) (ho : OwnP w lo (.slice A n c) p) :
  Calls Try.prog 61 #[.agg #[.slice A n c], .int .i64 f, .int .i64 arg, .int .i64 fuel, .int .i64 t] w (RetL (tr p f arg fuel (made p f arg fuel t - 1)) (made p f arg fuel t) w) := by
 have hnum := asks_num ha
 have h0 := hid (fun W (h : Below w.heap.size w W) => l2Run_any lo n c A p f arg fuel hl hsm hn ha W (ho.below h))
 have hru := hid (fun (i : Nat) W (h : Below w.heap.size w W) => l2Run_any lo n c A p f (wrap16 (arg + i)) fuel hl hsm hn (asks_any ha _ (wrap16_N (arg + i))) W (ho.below h))
 have hwr := hid (fun (i : Nat) (hi : i ≤ 100) W => (show Calls Try.prog 93 #[.int .i64 (IntKind.i64.wrap (arg + i))] W (fun e w' => e = .returned (.int .i64 (wrap16 (arg + i))) ∧ W = w') by rw [IntWalk.i64_in _ (by omega)]; exact wrap_any (arg + i) (by omega) (by omega) W))
 have hen := hid (fun k v s At nt ct W => l8Ends_any k v s At nt ct W)
 have HT : ∀ i : Nat, run p fuel f (wrap16 (arg + i)) = tr p f arg fuel i := fun _ => rfl
 have HT0 := tr_zero ha
 have HMD : made p f arg fuel t = rtGo (tr p f arg fuel) (t.toNat - 1) 1 := rfl
 simp only [HT] at hru
 rw [← HT0] at h0
 generalize made p f arg fuel t = M at *
 generalize tr p f arg fuel = T at *
 clear ho hsm ha HT HT0
 go_enter Try.func61, Try.ntmps61
 go_upto_region 1 with fail
 change (fun V => Code.wp _ _ _ _ V) _
 refine gen_world (X := fun V => Blk V w.heap.size 44 #[.slice A n c] ∧ Blk V (w.heap.size + 1) 39 #[.int .i64 0, .int .i64 0, .slice none 0 0, .int .i64 0] ∧ Below w.heap.size w V ∧ w.heap.size + 1 < V.heap.size) ⟨heap2_0 w _ _, heap2_1 w _ _, ((Below.refl _ _).alloc (Nat.le_refl _) _).alloc (by simp) _, by simp⟩ ?_
 rintro w1 ⟨x1, y1, b1, l1⟩
 have z1 : w1.cell? ⟨w.heap.size, 0, none⟩ = some (.slice A n c) := x1.cells 0
 have X1 := hid x1
 have Y1 := hid y1
 have B1 := hid b1
 clear x1 y1 b1
 go_wp2_with fail
 refine (h0.out _ B1.out).mono ?_
 rintro e w2 ⟨A2, c2, rfl, ht, b2⟩
 unfold outval
 have l2 := b2.size
 have X2 := hid (X1.out.below b2 (by omega))
 have Y2 := hid (Y1.out.below b2 l1)
 have HT2 := hid (own_mono ht (B1.out.size))
 have B2 := hid (B1.out.trans (b2.mono B1.out.size))
 clear ht b2 z1 X1 Y1
 go_upto_region 2 with fail
 change (fun V => Code.wp _ _ _ _ V) _
 refine gen_world (X := fun V => Blk V w2.heap.size 39 (cellsO (T 0) (.slice A2 (T 0).trace.length c2)) ∧ Blk V w.heap.size 44 #[.slice A n c] ∧ Blk V (w.heap.size + 1) 39 #[.int .i64 0, .int .i64 0, .slice none 0 0, .int .i64 0] ∧ Tre V w.heap.size (.slice A2 (T 0).trace.length c2) (T 0).trace ∧ Below w.heap.size w V ∧ w.heap.size + 1 < w2.heap.size)
  ⟨heap1_0 w2 _, X2.out.alloc _, Y2.out.alloc _, World.ownsRow.alloc HT2.out _, B2.out.alloc B2.out.size _, by omega⟩ ?_
 clear X2 Y2 HT2 B2 B1
 rintro w3 ⟨v1, v2, v3, v4, v5, v6⟩
 have X3 := hid v1
 have P3 := hid v2
 have HZ := hid v3
 have T3 := hid v4
 have B3 := hid v5
 have l3 := v1.lt
 clear v1 v2 v3 v4 v5 l2
 generalize w2.heap.size = ob at *
 have HOBN := hid (show ¬ (w.heap.size + 1 = ob) by omega)
 have HOBL := hid (fun (x : Nat) (hx : x < w.heap.size) (e : x = ob) => (show False by omega))
 go_wp2_with fail
 go_loopw [13] (fun i wr => ∃ (m : Nat) (o : Out) (A' : Option Addr) (c' : Nat), i = .int .i64 m ∧ 1 ≤ m ∧ (m : Int) ≤ t ∧ T (m - 1) = o ∧ rtGo T (t.toNat - m) m = M ∧ Blk wr ob 39 (cellsO o (.slice A' o.trace.length c')) ∧ Tre wr w.heap.size (.slice A' o.trace.length c') o.trace ∧ Chg (fun k => k = ob) w3 wr) (fun i _ => (t - intOf i).toNat)
 case atStart => exact ⟨1, T 0, A2, c2, by simp, by omega, by omega, rfl, by rw [HMD], X3.out, T3.out, Chg.refl _ _⟩
 case round =>
  obtain ⟨m, o, A', c', rfl, hm1, hmt, hTo, hgo, hob, htr, hch⟩ := hrel
  have HOB := hid hob
  have HTR := hid htr
  have HCH := hid hch
  have HGO := hid hgo
  have HO0 := hid hTo
  have hlr := hch.size
  have z0 := hob.cells
  unfold cellsO at z0
  clear hob htr hch hgo hTo X3 T3 HMD
  by_cases hlt : (m : Int) < t
  ·cases hE : ends o with
   | true =>
    have HM := hid (show M = m by rw [← HGO.out]; exact rtGo_yes (by rw [HO0.out]; exact hE))
    have hen2 := hid (fun At nt ct W => hen.out o.kind o.value o.spent At nt ct W)
    unfold ends at hE
    rw [hE] at hen2
    clear hE
    go_wp2_with fail
    refine (hen2.out _ _ _ _).mono ?_
    rintro e w4 ⟨rfl, b4⟩
    replace HOB := hid (HOB.out.below b4 (by omega))
    replace HTR := hid (own_below HTR.out b4 (Nat.le_refl _))
    replace HCH := hid (HCH.out.trans (Chg.of_below (C := fun _ => False) b4) (fun _ _ hx => hx.elim))
    clear b4 z0
    have Z := HZ.out.chg HCH.out HOBN.out
    have zz := Z.frozen
    have zy := Z.cells
    have zc := HOB.out.cells
    have BW := hid (B3.out.trans (HCH.out.below (B := w.heap.size) B3.out.size (fun x hx e => HOBL.out x hx e)))
    unfold cellsO at zc
    clear Z
    go_wp2_with fail
    refine gen_post (X := fun V => Blk V (w.heap.size + 1) 39 #[.int .i64 o.kind, .int .i64 o.value, .slice A' o.trace.length c', .int .i64 o.spent] ∧ Tre V w.heap.size (.slice A' o.trace.length c') o.trace ∧ Below w.heap.size w V) ?_ ?_
    ·have Z := HZ.out.chg HCH.out HOBN.out
     refine ⟨Blk.set4 Z _ _ _ _, own_set4 HTR.out Z _ _ _ _, ?_⟩
     iterate 4 refine Below.setCell ?_ (Nat.le_succ _) _
     exact BW.out
    rintro V ⟨v1, v2⟩
    have V1 := v1.cells
    have HV := hid v2
    clear v1 v2
    exact bodyPost_ret (v := .tuple #[.agg #[.int .i64 o.kind, .int .i64 o.value, .slice A' o.trace.length c', .int .i64 o.spent], .int .i64 m]) (by simp [results, Try.results61, go_sem, V1]) rfl ⟨A', c', by rw [HM.out, HO0.out] <;> rfl, by rw [HM.out, HO0.out]; exact HV.out.1, HV.out.2⟩
   | false =>
    have hnx := rtGo_no (t := T) (l := t.toNat - (m + 1)) (m := m) (by rw [HO0.out]; exact hE)
    have HN := hid (show rtGo T (t.toNat - (m + 1)) (m + 1) = M by rw [← hnx, ← HGO.out, show t.toNat - m = t.toNat - (m + 1) + 1 by omega])
    have hen2 := hid (fun At nt ct W => hen.out o.kind o.value o.spent At nt ct W)
    unfold ends at hE
    rw [hE] at hen2
    have hw := hid (hwr.out m (by omega))
    clear hE hnx HGO
    go_wp2_with fail
    refine (hen2.out _ _ _ _).mono ?_
    rintro e w4 ⟨rfl, b4⟩
    replace HOB := hid (HOB.out.below b4 (by omega))
    replace HCH := hid (HCH.out.trans (Chg.of_below (C := fun _ => False) b4) (fun _ _ hx => hx.elim))
    have l4 := b4.size
    have z1 : w4.cell? ⟨w.heap.size, 0, none⟩ = some (.slice A n c) := (P3.out.chg HCH.out (by omega)).cells 0
    have hR := hid (fun (V : World) (b : Below w4.heap.size w4 V) =>
     have hc : Chg (fun k => k = ob) w3 V := HCH.out.trans (Chg.of_below (C := fun _ => False) b) (fun _ _ hx => hx.elim)
     have hb : Below w.heap.size w V := B3.out.trans (hc.below (B := w.heap.size) B3.out.size (fun x hx e => HOBL.out x hx e))
     (hru.out m V hb).mono (fun e w' (h : RunR (T m) V e w') =>
      show ∃ (A6 : Option Addr) (c6 : Nat), e = .returned (.agg #[.int .i64 (T m).kind, .int .i64 (T m).value, .slice A6 (T m).trace.length c6, .int .i64 (T m).spent]) ∧ Tre w' w.heap.size (.slice A6 (T m).trace.length c6) (T m).trace ∧ Blk w' ob 39 #[.int .i64 o.kind, .int .i64 o.value, .slice A' o.trace.length c', .int .i64 o.spent] ∧ Chg (fun k => k = ob) w3 w' from
      let ⟨A6, c6, h1, h2, h3⟩ := h
      ⟨A6, c6, h1, own_mono h2 hb.size, (HOB.out.below b HOB.out.lt).below h3 (Nat.lt_of_lt_of_le HOB.out.lt b.size), hc.trans (Chg.of_below (C := fun _ => False) h3) (fun _ _ hx => hx.elim)⟩))
    clear b4 z0 HTR
    have hmm : (m : Int) ≤ 20 := by omega
    go_upto_region 4 with fail
    go_region_with (first | (go_at_call 93; refine (hw.out _).mono ?_; rintro e w5 ⟨rfl, rfl⟩) | (go_at_call 72; refine (hR.out _ ?_).mono ?_; (first | exact (Below.refl _ _).drew | exact Below.refl _ _); rintro e w6 ⟨A6, c6, rfl, t6, y6, h6⟩; have f6 := y6.frozen; have z6 := y6.cells))
    all_goals (
     first | change (fun V => Exit.then _ _ _ _ V) _ | change (fun V => Code.wp _ _ _ _ V) _
     refine gen_world (X := fun V => Blk V ob 39 (cellsO (T m) (.slice A6 (T m).trace.length c6)) ∧ Tre V w.heap.size (.slice A6 (T m).trace.length c6) (T m).trace ∧ Chg (fun k => k = ob) w3 V) ⟨Blk.set4 y6 _ _ _ _, own_set4 t6 y6 _ _ _ _, chg_set4 h6 _ _ _ _⟩ ?_
     clear y6 f6 z6 t6 h6
     rintro V ⟨v1, v2, v3⟩
     go_wp2_with fail
     go_roundw
     case rel => exact ⟨m + 1, T m, A6, c6, by go_num, by omega, by omega, rfl, HN.out, v1, v2, v3⟩
     case measure => simp [intOf]; omega)
  ·have HM := hid (show M = m by rw [← HGO.out, show t.toNat - m = 0 by omega]; rfl)
   have hcb : decide ((m : Int) < t) = false := by simpa using hlt
   clear hlt
   have Z := HZ.out.chg HCH.out HOBN.out
   have zz := Z.frozen
   have zy := Z.cells
   have zc := HOB.out.cells
   have BW := hid (B3.out.trans (HCH.out.below (B := w.heap.size) B3.out.size (fun x hx e => HOBL.out x hx e)))
   unfold cellsO at zc
   clear Z
   go_wp2_with fail
   refine gen_post (X := fun V => Blk V (w.heap.size + 1) 39 #[.int .i64 o.kind, .int .i64 o.value, .slice A' o.trace.length c', .int .i64 o.spent] ∧ Tre V w.heap.size (.slice A' o.trace.length c') o.trace ∧ Below w.heap.size w V) ?_ ?_
   ·have Z := HZ.out.chg HCH.out HOBN.out
    refine ⟨Blk.set4 Z _ _ _ _, own_set4 HTR.out Z _ _ _ _, ?_⟩
    iterate 4 refine Below.setCell ?_ (Nat.le_succ _) _
    exact BW.out
   rintro V ⟨v1, v2⟩
   have V1 := v1.cells
   have HV := hid v2
   clear v1 v2
   exact bodyPost_ret (v := .tuple #[.agg #[.int .i64 o.kind, .int .i64 o.value, .slice A' o.trace.length c', .int .i64 o.spent], .int .i64 m]) (by simp [results, Try.results61, go_sem, V1]) rfl ⟨A', c', by rw [HM.out, HO0.out] <;> rfl, by rw [HM.out, HO0.out]; exact HV.out.1, HV.out.2⟩
set_option maxRecDepth 100000 in
set_option maxHeartbeats 4000000 in
theorem needS_any (lo n c : Nat) (A : Option Addr) (p : Pg) (f arg fuel : Int) (hn : n ≤ 9223372036854775807) (hl : p.length = n) (hsm : Small p 9223372036854775807) (w : World) (ho : OwnP w lo (.slice A n c) p) :
  Calls Try.prog 34 #[.agg #[.slice A n c], .int .i64 f, .int .i64 arg, .int .i64 fuel] w (NumR (neededR p f arg fuel) w) := by
 have hq := hid (fun W (h : Below w.heap.size w W) => l2Ask_any w.heap.size A n c p f arg fuel hn hl hsm W (ho.rd.below h) h.size)
 have hr0 : neededR p f arg fuel = if asks p f arg fuel = true then (if (tr p f arg fuel (made p f arg fuel 20 - 1)).kind = 1 then ((made p f arg fuel 20 : Int), true) else (0, false)) else (0, false) := rfl
 cases ha : asks p f arg fuel with
 | false =>
  rw [ha] at hq hr0
  have hr := hid (hr0.trans (if_neg (by decide)))
  clear ha ho hsm hr0
  go_enter Try.func34, Try.ntmps34
  go_wp2_with fail
  refine (hq.out _ ((Below.refl _ _).alloc (Nat.le_refl _) _)).mono ?_
  rintro e w1 ⟨rfl, b1⟩
  have B1 := hid (((Below.refl _ _).alloc (Nat.le_refl _) _).trans (b1.mono (by simp)))
  clear b1
  go_wp2_with fail
  go_ret2
  exact ⟨by rw [hr.out] <;> rfl, B1.out⟩
 | true =>
  have hn6 := okProg_small (start_wf (n := n) ha).1
  have hre := hid (fun W (h : Below w.heap.size w W) => l8Retry_any lo n c A p f arg fuel 20 hl (hn6.2.mono (by omega)) (by omega) ha (by omega) (by omega) W (ho.below h))
  have hmd := made_in p f arg fuel 20 (by omega)
  rw [ha] at hq hr0
  have hr1 := hr0.trans (if_pos rfl)
  generalize tr p f arg fuel (made p f arg fuel 20 - 1) = o at *
  generalize made p f arg fuel 20 = M at *
  have HR1 := hid hr1
  clear ha ho hsm hr0 hr1 hn6
  go_enter Try.func34, Try.ntmps34
  go_upto_region 1 with fail
  change (fun V => Code.wp _ _ _ _ V) _
  refine gen_world (X := fun V => Blk V w.heap.size 44 #[.slice A n c] ∧ Below w.heap.size w V ∧ w.heap.size < V.heap.size) ⟨heap1_0 w _, (Below.refl _ _).alloc (Nat.le_refl _) _, by simp⟩ ?_
  rintro w1 ⟨x1, b1, l1⟩
  have z1 : w1.cell? ⟨w.heap.size, 0, none⟩ = some (.slice A n c) := x1.cells 0
  have X1 := hid x1
  have B1 := hid b1
  clear x1 b1
  go_wp2_with fail
  refine (hq.out _ B1.out).mono ?_
  rintro e w2 ⟨rfl, b2⟩
  have B2 := hid (B1.out.trans (b2.mono B1.out.size))
  have z2 : w2.cell? ⟨w.heap.size, 0, none⟩ = some (.slice A n c) := (X1.out.below b2 l1).cells 0
  clear b2 z1 hq X1
  go_wp2_with fail
  refine (hre.out _ B2.out).mono ?_
  rintro e w3 ⟨A3, c3, rfl, t3, b3⟩
  unfold outval
  have B3 := hid (B2.out.trans (b3.mono B2.out.size))
  clear t3 b3 z2 hre
  by_cases hk : o.kind = 1
  ·have hr := hid (HR1.out.trans (if_pos hk))
   have hkb : (o.kind != 1) = false := by simp [hk]
   obtain ⟨k, v, tt, s⟩ := o
   dsimp only at hk hkb ⊢
   subst hk
   clear HR1
   go_wp2_with fail
   go_ret2
   exact ⟨by rw [hr.out] <;> rfl, B3.out.alloc B3.out.size _⟩
  ·have hr := hid (HR1.out.trans (if_neg hk))
   have hkb : (o.kind != 1) = true := by simp [hk]
   have hkc : (o.kind == 1) = false := by simpa using hk
   clear HR1 hk
   go_wp2_with fail
   go_ret2
   exact ⟨by rw [hr.out] <;> rfl, B3.out.alloc B3.out.size _⟩
end Go.Proofs.Ytibadkjdchdnjaa.Krt
-- squeezed
