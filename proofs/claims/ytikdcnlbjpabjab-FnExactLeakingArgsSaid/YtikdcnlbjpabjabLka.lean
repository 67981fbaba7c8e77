import Derived.Test.YtikdcnlbjpabjabPrg
import Derived.Test.YtikdcnlbjpabjabSays
import Derived.Test.YtikdcnlbjpabjabEmt
set_option linter.all false
namespace Go.Proofs.Ytikdcnlbjpabjab.LkaP
open Lib (hid)
open Go.ChangeShapes Go.WideShapes Go.ChangeAt Go.RowKit
open PL Mem Srun Sst To OwnS AskP StpS Res Swhole Sout Irp RunF IntsP TreeP LawI PArgP Prg SaysP EntP EntT
def sdn (p : Pg) (f low fuel : Int) (q : Nat) : List Int := (saidR p f (low + q) fuel).1
def leakL (p : Pg) (f low fuel : Int) : Nat → List Int
 | 0 => []
 | q + 1 => if tidyB (sdn p f low fuel q) = true then leakL p f low fuel q else leakL p f low fuel q ++ [low + q]
def allGood (p : Pg) (f low fuel : Int) : Nat → Bool
 | 0 => true
 | q + 1 => allGood p f low fuel q && goodL (sdn p f low fuel q)
theorem leakL_yes {p : Pg} {f low fuel : Int} {q : Nat} (h : tidyB (sdn p f low fuel q) = false) : leakL p f low fuel (q + 1) = leakL p f low fuel q ++ [low + q] := by rw [leakL, if_neg (by rw [h]; decide)]
theorem leakL_no {p : Pg} {f low fuel : Int} {q : Nat} (h : tidyB (sdn p f low fuel q) = true) : leakL p f low fuel (q + 1) = leakL p f low fuel q := by rw [leakL, if_pos h]
theorem leakL_len (p : Pg) (f low fuel : Int) : ∀ q, (leakL p f low fuel q).length ≤ q
 | 0 => Nat.le_refl _
 | q + 1 => by
  have := leakL_len p f low fuel q
  rw [leakL]
  split
  ·omega
  ·rw [List.length_append, List.length_singleton]; omega
theorem allGood_add {p : Pg} {f low fuel : Int} {q : Nat} (h : allGood p f low fuel q = false) : ∀ d, allGood p f low fuel (q + d) = false
 | 0 => h
 | d + 1 => by show (allGood p f low fuel (q + d) && _) = false; rw [allGood_add h d]; rfl
theorem allGood_le {p : Pg} {f low fuel : Int} {q N : Nat} (hq : q ≤ N) (h : allGood p f low fuel q = false) : allGood p f low fuel N = false := by
 have := allGood_add h (N - q)
 rwa [show q + (N - q) = N by omega] at this
def leakR (p : Pg) (f low high fuel : Int) : List Int × Bool := if rangeOk p f low high fuel = true ∧ allGood p f low fuel (high - low + 1).toNat = true then (leakL p f low fuel (high - low + 1).toNat, true) else ([], false)
theorem leakR_len (p : Pg) (f low high fuel : Int) : (leakR p f low high fuel).1.length ≤ 100000 := by
 unfold leakR
 split
 ·rename_i h
  have := range_num h.1
  have h2 := leakL_len p f low fuel (high - low + 1).toNat
  show (leakL p f low fuel (high - low + 1).toNat).length ≤ 100000
  omega
 ·simp
theorem goodK_of {xs : List Int} (h : goodL xs = true) : goodK xs xs.length := ((goodL_iff xs).1 h).2
set_option maxRecDepth 100000 in
set_option maxHeartbeats 4000000 in
theorem l7Range_any (B : Nat) (A : Option Addr) (n c : Nat) (p : Pg) (f low high fuel : Int) (hn : n ≤ 9223372036854775807) (hl : p.length = n) (hsm : Small p 9223372036854775807) (w : World) (hr : RdP w B A p) (hB : B ≤ w.heap.size) :
  Calls Try.prog 38 #[.agg #[.slice A n c], .int .i64 f, .int .i64 low, .int .i64 high, .int .i64 fuel] w fun e w' => e = .returned (.bool (rangeOk p f low high fuel)) ∧ Below w.heap.size w w' := by
 have hq := hid (fun W (h : Below w.heap.size w W) => l2Ask_any B A n c p f low fuel hn hl hsm W (hr.below (h.mono hB)) (Nat.le_trans hB h.size))
 have hN := hid (fun W => l2Number_any high W)
 have hI := hid (fun W => l1In_any (high - low) 0 100 W)
 have HALs := hid (show Below w.heap.size w (w.alloc (.cells #[.slice A n c] 31)) from (Below.refl _ _).alloc (Nat.le_refl _) _)
 have hnum : asks p f low fuel = true → -32768 ≤ low ∧ low ≤ 32767 := asks_num
 have hs : rangeOk p f low high fuel = (asks p f low fuel && (isNum high && btw (high - low) 0 100)) := rfl
 generalize rangeOk p f low high fuel = R at *
 clear hr hsm
 cases h1 : asks p f low fuel with
 | false =>
  rw [h1] at hq hs
  have HS := hid (show R = false by rw [hs]; rfl)
  clear hs hnum h1
  go_enter Try.func38, Try.ntmps38
  go_wp2_with fail
  refine (hq.out _ HALs.out).mono ?_
  rintro e w1 ⟨rfl, b1⟩
  go_wp2_with fail
  go_ret
  exact ⟨by rw [HS.out]; rfl, HALs.out.trans (b1.mono HALs.out.size)⟩
 | true =>
  obtain ⟨hl1, hl2⟩ := hnum h1
  rw [h1] at hq hs
  cases h2 : isNum high with
  | false =>
   rw [h2] at hN hs
   have HS := hid (show R = false by rw [hs]; rfl)
   clear hs hnum h1 h2
   go_enter Try.func38, Try.ntmps38
   go_wp2_with fail
   refine (hq.out _ HALs.out).mono ?_
   rintro e w1 ⟨rfl, b1⟩
   go_wp2_with fail
   refine (hN.out _).mono ?_
   rintro e w2 ⟨rfl, rfl⟩
   go_wp2_with fail
   go_ret
   exact ⟨by rw [HS.out]; rfl, HALs.out.trans (b1.mono HALs.out.size)⟩
  | true =>
   have hh : -32768 ≤ high ∧ high ≤ 32767 := by unfold isNum at h2; simpa using h2
   obtain ⟨hh1, hh2⟩ := hh
   rw [h2] at hN hs
   generalize hb : btw (high - low) 0 100 = b at hs hI
   have HS := hid (show R = b by rw [hs]; simp)
   clear hs hnum h1 h2 hb
   go_enter Try.func38, Try.ntmps38
   go_wp2_with fail
   refine (hq.out _ HALs.out).mono ?_
   rintro e w1 ⟨rfl, b1⟩
   go_wp2_with fail
   refine (hN.out _).mono ?_
   rintro e w2 ⟨rfl, rfl⟩
   go_wp2_with fail
   refine (hI.out _).mono ?_
   rintro e w3 ⟨rfl, rfl⟩
   go_wp2_with fail
   go_ret
   exact ⟨by rw [HS.out] <;> rfl, HALs.out.trans (b1.mono HALs.out.size)⟩
set_option maxRecDepth 100000 in
set_option maxHeartbeats 4000000 in
theorem l7Said_any (lo n c : Nat) (A : Option Addr) (p : Pg) (f arg fuel : Int) (hn : n ≤ 9223372036854775807) (hl : p.length = n) (hsm : Small p 9223372036854775807) (ha : asks p f arg fuel = true) (w : World) (ho : OwnP w lo (.slice A n c) p) :
  Calls Try.prog 39 #[.agg #[.slice A n c], .int .i64 f, .int .i64 arg, .int .i64 fuel] w (IntsR ((saidR p f arg fuel).1, goodL (saidR p f arg fuel).1) w) := by
 have hq := hid (fun W (h : Below w.heap.size w W) => l2Ask_any w.heap.size A n c p f arg fuel hn hl hsm W (ho.rd.below h) h.size)
 have hal : ∀ o1 : Obj, Below w.heap.size w (w.alloc o1) := fun o1 => (Below.refl _ _).alloc (Nat.le_refl _) _
 have HAL := hid hal
 have hlen := runR_len p f arg fuel
 obtain ⟨h1, h2, h3, h4, h5, h6⟩ := start_wf (n := n) ha
 have hn6 : p.length ≤ 6 ∧ Small p 8 := okProg_small h1
 have hru := hid (fun W (h : Below w.heap.size w W) => l2Run_any lo n c A p f arg fuel hl (hn6.2.mono (by omega)) (by omega) ha W (ho.below h))
 have hrr : runR p f arg fuel = (run p fuel f arg, true) := by unfold runR; rw [ha]; rfl
 have hr : (saidR p f arg fuel).1 = saids (run p fuel f arg).trace := by unfold saidR; rw [hrr]
 rw [hrr] at hlen
 rw [ha] at hq
 clear ha ho hsm hal h1 h2 h3 h4 h5 h6 hn6 hrr
 rw [hr]
 clear hr
 generalize run p fuel f arg = r at *
 obtain ⟨k, v, t, s⟩ := r
 dsimp only at hlen ⊢
 have hsl : (saids t).length ≤ 100000 := Nat.le_trans (saids_len t) hlen
 go_enter Try.func39, Try.ntmps39
 go_wp2_with fail
 refine (hq.out _ (HAL.out _)).mono ?_
 rintro e w1 ⟨rfl, b1⟩
 have a1' : w1.cell? ⟨w.heap.size, 0, none⟩ = some (.slice A n c) := (Blk.below (heap1_0 w (.cells #[.slice A n c] 31)) b1 (by simp)).cells 0
 have bb := hid ((HAL.out (.cells #[.slice A n c] 31)).trans (b1.mono (HAL.out _).size))
 clear b1 hq
 go_wp2_with fail
 refine (hru.out _ bb.out).mono ?_
 rintro e w2 ⟨A2, c2, rfl, ht, b2⟩
 unfold outval
 have B2 := hid (bb.out.trans (b2.mono bb.out.size))
 have hR := hid (rd_own ht)
 dsimp only at hR ⊢
 clear a1' hru b2 bb ht
 go_wp2_with fail
 refine (l2Says_any w2.heap.size t.length c2 A2 t k v s rfl hlen w2 hR.out (Nat.le_refl _)).mono ?_
 rintro e w3 ⟨A3, c3, rfl, o3, b3⟩
 have O3 := hid o3
 have B3 := hid (B2.out.trans (b3.mono B2.out.size))
 have HGd := hid (EntS.goodS_any w3.heap.size A3 (saids t).length c3 (saids t) (by omega) rfl w3 (o3.rd rfl))
 clear o3 b3
 go_wp2_with fail
 refine HGd.out.mono ?_
 rintro e w4 ⟨rfl, rfl⟩
 clear HGd
 go_wp2_with fail
 go_ret2
 exact ⟨A3, c3, rfl, own_mono O3.out B2.out.size, B3.out⟩
set_option maxRecDepth 100000 in
set_option maxHeartbeats 8000000 in
theorem lkaS_any (lo n c : Nat) (A : Option Addr) (p : Pg) (f low high fuel : Int) (hn : n ≤ 9223372036854775807) (hl : p.length = n) (hsm : Small p 9223372036854775807) (w : World) (ho : OwnP w lo (.slice A n c) p) :
  Calls Try.prog 10 #[.agg #[.slice A n c], .int .i64 f, .int .i64 low, .int .i64 high, .int .i64 fuel] w (IntsR (leakR p f low high fuel) w) := by
 obtain ⟨i0, hi, hz0, hz1, hz2⟩ := info_parts info3
 have hq := hid (fun W (h : Below w.heap.size w W) => l7Range_any w.heap.size A n c p f low high fuel hn hl hsm W (ho.rd.below h) h.size)
 have hr0 : leakR p f low high fuel = if rangeOk p f low high fuel = true ∧ allGood p f low fuel (high - low + 1).toNat = true then (leakL p f low fuel (high - low + 1).toNat, true) else ([], false) := rfl
 cases ha : rangeOk p f low high fuel with
 | false =>
  rw [ha] at hq hr0
  have hr := hid (hr0.trans (if_neg (by rintro ⟨h, _⟩; cases h)))
  clear ha ho hsm hr0
  go_enter Try.func10, Try.ntmps10
  go_upto_region 1 with fail
  change (fun V => Code.wp _ _ _ _ V) _
  refine gen_world (X := fun V => Blk V w.heap.size 31 #[.slice A n c] ∧ Below w.heap.size w V ∧ w.heap.size < V.heap.size) ⟨heap1_0 w _, (Below.refl _ _).alloc (Nat.le_refl _) _, by simp⟩ ?_
  rintro w1 ⟨x1, b1, l1⟩
  have z1 : w1.cell? ⟨w.heap.size, 0, none⟩ = some (.slice A n c) := x1.cells 0
  have B1 := hid b1
  have B2 := hid (b1.alloc b1.size (.cells #[] 3))
  have HE := hid (show OwnI (w1.alloc (.cells #[] 3)) w.heap.size (.slice (some ⟨w1.heap.size, 0, none⟩) 0 0) [] from App.empty_own (heap1_0 w1 _) b1.size)
  clear x1 b1
  go_wp2_with fail
  refine (hq.out _ B2.out).mono ?_
  rintro e w2 ⟨rfl, b2⟩
  have O := hid (own_below HE.out b2 (Nat.le_refl _))
  have B := hid (B2.out.trans (b2.mono B2.out.size))
  clear b2
  go_wp2_with fail
  go_ret2
  exact ⟨_, _, by rw [hr.out] <;> rfl, by rw [hr.out]; exact O.out, B.out⟩
 | true =>
  obtain ⟨h1, h2, h3, h4, h5⟩ := range_num ha
  have hmid := fun (q : Nat) (hq : low + q ≤ high) => range_mid ha hq
  have hru := hid (fun (q : Nat) (hq : low + q ≤ high) W (h : Below w.heap.size w W) => l7Said_any lo n c A p f (low + q) fuel hn hl hsm (hmid q hq) W (ho.below h))
  have hsok := hid (fun (q : Nat) (hq : low + q ≤ high) => (show (saidR p f (low + q) fuel).2 = true by unfold saidR runR; rw [hmid q hq]; rfl))
  have hslen := hid (fun (q : Nat) => (show (sdn p f low fuel q).length ≤ 100000 from saidR_len p f (low + q) fuel))
  rw [ha] at hq hr0
  have HR0 := hid hr0
  have HLE := hid (fun q => leakL_len p f low fuel q)
  have hN : ∃ N : Nat, (high - low + 1).toNat = N ∧ low + N = high + 1 := ⟨_, rfl, by omega⟩
  obtain ⟨N, hN1, hN2⟩ := hN
  rw [hN1] at HR0
  clear ha ho hsm hr0 h1 hmid hN1
  go_enter Try.func10, Try.ntmps10
  go_upto_region 1 with fail
  change (fun V => Code.wp _ _ _ _ V) _
  refine gen_world (X := fun V => Blk V w.heap.size 31 #[.slice A n c] ∧ Below w.heap.size w V ∧ w.heap.size < V.heap.size) ⟨heap1_0 w _, (Below.refl _ _).alloc (Nat.le_refl _) _, by simp⟩ ?_
  rintro w1 ⟨x1, b1, l1⟩
  have z1 : w1.cell? ⟨w.heap.size, 0, none⟩ = some (.slice A n c) := x1.cells 0
  have X1 := hid x1
  have B1 := hid b1
  have B2 := hid (show Below w1.heap.size w1 (w1.alloc (.cells #[] 3)) from (Below.refl _ _).alloc (Nat.le_refl _) _)
  have HE := hid (show OwnI (w1.alloc (.cells #[] 3)) w1.heap.size (.slice (some ⟨w1.heap.size, 0, none⟩) 0 0) [] from App.empty_own (heap1_0 w1 _) (Nat.le_refl _))
  clear x1 b1
  go_wp2_with fail
  refine (hq.out _ (B1.out.trans (B2.out.mono B1.out.size))).mono ?_
  rintro e w2 ⟨rfl, b2⟩
  have O2 := hid (own_below HE.out b2 (Nat.le_refl _))
  have C2 := hid (B2.out.trans (b2.mono B2.out.size))
  clear b2 B2 HE z1 hq
  go_wp2_with fail
  go_loopw [12, 13] (fun v i wr => ∃ (q : Nat) (A' : Option Addr) (c' : Nat), low + q ≤ high + 1 ∧ i = .int .i64 (low + q) ∧ v = .slice A' (leakL p f low fuel q).length c' ∧ OwnI wr w1.heap.size (.slice A' (leakL p f low fuel q).length c') (leakL p f low fuel q) ∧ allGood p f low fuel q = true ∧ Below w1.heap.size w1 wr) (fun _ i _ => (high + 1 - intOf i).toNat)
  case atStart => exact ⟨0, _, _, by omega, by simp, rfl, O2.out, rfl, C2.out⟩
  case round =>
   obtain ⟨q, A', c', hq, rfl, rfl, hown, hag, hb⟩ := hrel
   clear O2 C2
   have hlo := hb.size
   have hle := HLE.out q
   have HB := hid hb
   have O := hid hown
   have HAG := hid hag
   have z1 : wr.cell? ⟨w.heap.size, 0, none⟩ = some (.slice A n c) := ((X1.out.below hb l1).cells 0)
   clear hb hown hag
   by_cases hlt : low + q ≤ high
   ·have hrun := hru.out q hlt wr (B1.out.trans (HB.out.mono B1.out.size))
    have hso := hsok.out q hlt
    have hsl := hslen.out q
    have HQ := hid (show sdn p f low fuel q = (saidR p f (low + q) fuel).1 from rfl)
    have HYES := fun h => leakL_yes (p := p) (f := f) (low := low) (fuel := fuel) (q := q) h
    have HNO := fun h => leakL_no (p := p) (f := f) (low := low) (fuel := fuel) (q := q) h
    have HGS : allGood p f low fuel (q + 1) = goodL (sdn p f low fuel q) := by show (allGood p f low fuel q && _) = _; rw [HAG.out]; rfl
    rw [HQ.out] at hsl HYES HNO HGS
    obtain ⟨⟨xs, bk⟩, hxs⟩ : ∃ r, saidR p f (low + q) fuel = r := ⟨_, rfl⟩
    rw [hxs] at hrun hso hsl HYES HNO HGS
    dsimp only at hrun hso hsl HYES HNO HGS
    subst hso
    have HRun := hid hrun
    have HY := hid HYES
    have HNo := hid HNO
    clear hrun HYES HNO hxs HQ
    obtain ⟨L0, hL0⟩ : ∃ L0, leakL p f low fuel q = L0 := ⟨_, rfl⟩
    have HL0 := hid hL0
    rw [hL0] at hle O HY HNo ⊢
    clear hL0
    go_wp2_with fail
    refine HRun.out.mono ?_
    rintro e w3 ⟨A3, c3, rfl, o3, b3⟩
    dsimp only at o3 ⊢
    obtain ⟨m3, hm3⟩ : ∃ m3, xs.length = m3 := ⟨_, rfl⟩
    have HM3 := hid hm3
    rw [hm3] at o3 hsl ⊢
    clear hm3
    have HB3 := hid (HB.out.trans (b3.mono hlo))
    have O3 := hid (own_below O.out b3 (Nat.le_refl _))
    have HTd := fun hg => l7Tidy_any m3 c3 A3 xs HM3.out (by omega) hg w3 (OwnI.rd o3 HM3.out)
    clear o3 b3 HRun z1
    cases hg : goodL xs with
    | false =>
     have hr := hid (HR0.out.trans (if_neg (by rintro ⟨_, h⟩; have := allGood_le (q := q + 1) (N := N) (by omega) (HGS.trans hg); rw [this] at h; cases h)))
     clear hg HGS HTd
     go_wp2_with fail
     go_ret2
     have B := B1.out.trans (HB3.out.mono B1.out.size)
     exact ⟨_, _, by rw [hr.out] <;> rfl, by rw [hr.out]; exact App.empty_own (heap1_0 w3 _) B.size, B.alloc B.size _⟩
    | true =>
     have HTd := hid (HTd (by have := goodK_of hg; rwa [HM3.out] at this))
     rw [hg] at HGS
     clear hg
     cases ht : tidyB xs with
     | true =>
      rw [ht] at HTd
      have hno := hid (HNo.out ht)
      clear ht
      go_wp2_with fail
      refine HTd.out.mono ?_
      rintro e w4 ⟨rfl, b4⟩
      have HB4 := hid (HB3.out.trans (b4.mono HB3.out.size))
      have O4 := hid (own_below O3.out b4 (Nat.le_refl _))
      clear b4 HTd
      go_wp2_with fail
      go_roundw
      case rel => exact ⟨q + 1, A', c', by omega, by rw [show low + ((q + 1 : Nat) : Int) = low + q + 1 by omega] <;> rfl, by rw [hno.out], by rw [hno.out]; exact O4.out, HGS, HB4.out⟩
      case measure => simp [intOf]; omega
     | false =>
      rw [ht] at HTd
      have hye := hid (HY.out ht)
      clear ht
      go_wp2_with fail
      refine HTd.out.mono ?_
      rintro e w4 ⟨rfl, b4⟩
      have HB4 := hid (HB3.out.trans (b4.mono HB3.out.size))
      have O4 := hid (own_below O3.out b4 (Nat.le_refl _))
      have s4 := HB4.out.size
      clear b4 HTd
      obtain ⟨m, hm⟩ : ∃ m, L0.length = m := ⟨_, rfl⟩
      have HM := hid hm
      have HOW := hid (show w4.ownsRow w1.heap.size 3 1 (.slice A' m c') m (cellsI L0) by have := O4.out; unfold OwnI at this; rwa [hm] at this)
      rw [hm] at hle ⊢
      clear hm
      go_wp2_with (first
       | (at_builtin; refine App.row_list _ rfl (.tmp 45) (.tmp 47) 26 rfl w1.heap.size 0 3 i0 _ 1 8 Try.underlying26 hi hz0 hz1 hz2 rfl (by decide) (.slice A' m c') m (cellsI L0) rfl (own_below HOW.out ((Below.refl _ _).alloc (Nat.le_refl _) _) (Nat.le_refl _)) (.slice (some ⟨w4.heap.size, 0, none⟩) 1 1) 1 [.int .i64 (low + q)] rfl (App.one_own (heap1_0 w4 _)) (by intro u hu; simp at hu; rw [hu]; rfl) (by unfold maxLen; omega) (by omega) (by simp; omega) ?_)
       | go_in)
      intro v5 w5 o5 g5 t5
      have HB5 := hid ((HB4.out.alloc s4 (.cells #[.int .i64 (low + q)] 3)).trans ((Chg.of_grown g5).below (by simp; omega) (fun x hx hc => by have := (World.ownsRow.lt HOW.out x hc.symm).1; omega)))
      obtain ⟨A5, c5, rfl⟩ := own_slice o5
      have O5 := hid (show OwnI w5 w1.heap.size (.slice A5 (L0 ++ [low + q]).length c5) (L0 ++ [low + q]) by unfold OwnI; rw [List.length_append, List.length_singleton, HM.out, cellsI_append]; exact o5)
      clear o5 g5 t5
      go_wp2_with fail
      go_roundw
      case rel => exact ⟨q + 1, A5, c5, by omega, by rw [show low + ((q + 1 : Nat) : Int) = low + q + 1 by omega] <;> rfl, by rw [hye.out, List.length_append, List.length_singleton, HM.out], by rw [hye.out]; exact O5.out, HGS, HB5.out⟩
      case measure => simp [intOf]; omega
   ·obtain rfl : q = N := by omega
    have hr := hid (HR0.out.trans (if_pos (by first | exact ⟨rfl, HAG.out⟩ | exact ⟨trivial, HAG.out⟩)))
    go_wp2_with fail
    go_ret2
    exact ⟨A', c', by rw [hr.out] <;> rfl, by rw [hr.out]; exact own_mono O.out (Nat.le_of_lt l1), B1.out.trans (HB.out.mono B1.out.size)⟩
set_option maxRecDepth 100000 in
set_option maxHeartbeats 8000000 in
theorem lkaI_any (lo n c : Nat) (A : Option Addr) (p : Pg) (f low high fuel : Int) (hn : n ≤ 9223372036854775807) (hl : p.length = n) (hsm : Small p 9223372036854775807) (w : World) (ho : OwnP w lo (.slice A n c) p) :
  Calls Try.prog 12 #[.agg #[.slice A n c], .int .i64 f, .int .i64 low, .int .i64 high, .int .i64 fuel] w (IntsR (leakR p f low high fuel) w) := by
 obtain ⟨i0, hi, hz0, hz1, hz2⟩ := info_parts info3
 have hq := hid (fun W (h : Below w.heap.size w W) => runAll_any lo n c A p f low high fuel hn hl hsm W (ho.below h))
 have hr0 : leakR p f low high fuel = if rangeOk p f low high fuel = true ∧ allGood p f low fuel (high - low + 1).toNat = true then (leakL p f low fuel (high - low + 1).toNat, true) else ([], false) := rfl
 cases ha : rangeOk p f low high fuel with
 | false =>
  rw [ha] at hq hr0
  have hr := hid (hr0.trans (if_neg (by rintro ⟨h, _⟩; cases h)))
  clear ha ho hsm hr0
  go_enter Try.func12, Try.ntmps12
  go_upto_region 1 with fail
  change (fun V => Code.wp _ _ _ _ V) _
  refine gen_world (X := fun V => Blk V w.heap.size 31 #[.slice A n c] ∧ Below w.heap.size w V ∧ w.heap.size < V.heap.size) ⟨heap1_0 w _, (Below.refl _ _).alloc (Nat.le_refl _) _, by simp⟩ ?_
  rintro w1 ⟨x1, b1, l1⟩
  have z1 : w1.cell? ⟨w.heap.size, 0, none⟩ = some (.slice A n c) := x1.cells 0
  have B1 := hid b1
  clear x1 b1
  go_wp2_with fail
  refine (hq.out _ B1.out).mono ?_
  rintro e w2 ⟨rfl, b2⟩
  have B := hid (B1.out.trans (b2.mono B1.out.size))
  clear b2
  go_wp2_with fail
  go_ret2
  exact ⟨_, _, by rw [hr.out] <;> rfl, by rw [hr.out]; exact App.empty_own (heap1_0 w2 _) B.out.size, B.out.alloc B.out.size _⟩
 | true =>
  obtain ⟨h1, h2, h3, h4, h5⟩ := range_num ha
  have hmid := fun (q : Nat) (hq : low + q ≤ high) => range_mid ha hq
  have hru := hid (fun (q : Nat) (hq : low + q ≤ high) W (h : Below w.heap.size w W) => saidI_any lo n c A p f (low + q) fuel hn hl hsm W (ho.below h))
  have hsok := hid (fun (q : Nat) (hq : low + q ≤ high) => (show (saidR p f (low + q) fuel).2 = true by unfold saidR runR; rw [hmid q hq]; rfl))
  have hslen := hid (fun (q : Nat) => (show (sdn p f low fuel q).length ≤ 100000 from saidR_len p f (low + q) fuel))
  rw [ha] at hq hr0
  have HR0 := hid hr0
  have HLE := hid (fun q => leakL_len p f low fuel q)
  have hN : ∃ N : Nat, (high - low + 1).toNat = N ∧ low + N = high + 1 := ⟨_, rfl, by omega⟩
  obtain ⟨N, hN1, hN2⟩ := hN
  rw [hN1] at HR0
  clear ha ho hsm hr0 h1 hmid hN1
  go_enter Try.func12, Try.ntmps12
  go_upto_region 1 with fail
  change (fun V => Code.wp _ _ _ _ V) _
  refine gen_world (X := fun V => Blk V w.heap.size 31 #[.slice A n c] ∧ Below w.heap.size w V ∧ w.heap.size < V.heap.size) ⟨heap1_0 w _, (Below.refl _ _).alloc (Nat.le_refl _) _, by simp⟩ ?_
  rintro w1 ⟨x1, b1, l1⟩
  have z1 : w1.cell? ⟨w.heap.size, 0, none⟩ = some (.slice A n c) := x1.cells 0
  have X1 := hid x1
  have B1 := hid b1
  clear x1 b1
  go_wp2_with fail
  refine (hq.out _ B1.out).mono ?_
  rintro e w2 ⟨rfl, b2⟩
  have b12 : Below w1.heap.size w1 (w2.alloc (.cells #[] 3)) := b2.alloc b2.size _
  have O2 := hid (show OwnI (w2.alloc (.cells #[] 3)) w1.heap.size (.slice (some ⟨w2.heap.size, 0, none⟩) 0 0) [] from App.empty_own (heap1_0 w2 _) b2.size)
  have C2 := hid b12
  clear b2 b12 z1 hq
  go_wp2_with fail
  go_loopw [12, 13] (fun v i wr => ∃ (q : Nat) (A' : Option Addr) (c' : Nat), low + q ≤ high + 1 ∧ i = .int .i64 (low + q) ∧ v = .slice A' (leakL p f low fuel q).length c' ∧ OwnI wr w1.heap.size (.slice A' (leakL p f low fuel q).length c') (leakL p f low fuel q) ∧ allGood p f low fuel q = true ∧ Below w1.heap.size w1 wr) (fun _ i _ => (high + 1 - intOf i).toNat)
  case atStart => exact ⟨0, _, _, by omega, by simp, rfl, O2.out, rfl, C2.out⟩
  case round =>
   obtain ⟨q, A', c', hq, rfl, rfl, hown, hag, hb⟩ := hrel
   clear O2 C2
   have hlo := hb.size
   have hle := HLE.out q
   have HB := hid hb
   have O := hid hown
   have HAG := hid hag
   have z1 : wr.cell? ⟨w.heap.size, 0, none⟩ = some (.slice A n c) := ((X1.out.below hb l1).cells 0)
   clear hb hown hag
   by_cases hlt : low + q ≤ high
   ·have hrun := hru.out q hlt wr (B1.out.trans (HB.out.mono B1.out.size))
    have hso := hsok.out q hlt
    have hsl := hslen.out q
    have HQ := hid (show sdn p f low fuel q = (saidR p f (low + q) fuel).1 from rfl)
    have HYES := fun h => leakL_yes (p := p) (f := f) (low := low) (fuel := fuel) (q := q) h
    have HNO := fun h => leakL_no (p := p) (f := f) (low := low) (fuel := fuel) (q := q) h
    have HGS : allGood p f low fuel (q + 1) = goodL (sdn p f low fuel q) := by show (allGood p f low fuel q && _) = _; rw [HAG.out]; rfl
    rw [HQ.out] at hsl HYES HNO HGS
    obtain ⟨⟨xs, bk⟩, hxs⟩ : ∃ r, saidR p f (low + q) fuel = r := ⟨_, rfl⟩
    rw [hxs] at hrun hso hsl HYES HNO HGS
    dsimp only at hrun hso hsl HYES HNO HGS
    subst hso
    have HRun := hid hrun
    have HY := hid HYES
    have HNo := hid HNO
    clear hrun HYES HNO hxs HQ
    obtain ⟨L0, hL0⟩ : ∃ L0, leakL p f low fuel q = L0 := ⟨_, rfl⟩
    have HL0 := hid hL0
    rw [hL0] at hle O HY HNo ⊢
    clear hL0
    go_wp2_with fail
    refine HRun.out.mono ?_
    rintro e w3 ⟨A3, c3, rfl, o3, b3⟩
    dsimp only at o3 ⊢
    obtain ⟨m3, hm3⟩ : ∃ m3, xs.length = m3 := ⟨_, rfl⟩
    have HM3 := hid hm3
    rw [hm3] at o3 hsl ⊢
    clear hm3
    have HB3 := hid (HB.out.trans (b3.mono hlo))
    have O3 := hid (own_below O.out b3 (Nat.le_refl _))
    have HTd := hid (tidyI_gen m3 c3 A3 xs HM3.out (by omega) w3 (OwnI.rd o3 HM3.out))
    clear o3 b3 HRun z1
    cases hg : goodL xs with
    | false =>
     rw [tidyR_no hg] at HTd
     have hr := hid (HR0.out.trans (if_neg (by rintro ⟨_, h⟩; have := allGood_le (q := q + 1) (N := N) (by omega) (HGS.trans hg); rw [this] at h; cases h)))
     clear hg HGS
     go_wp2_with fail
     refine HTd.out.mono ?_
     rintro e w4 ⟨rfl, b4⟩
     have HB4 := hid (HB3.out.trans (b4.mono HB3.out.size))
     clear b4 HTd
     go_wp2_with fail
     go_ret2
     have B := B1.out.trans (HB4.out.mono B1.out.size)
     exact ⟨_, _, by rw [hr.out] <;> rfl, by rw [hr.out]; exact App.empty_own (heap1_0 w4 _) B.size, B.alloc B.size _⟩
    | true =>
     rw [tidyR_yes hg] at HTd
     rw [hg] at HGS
     clear hg
     cases ht : tidyB xs with
     | true =>
      rw [ht] at HTd
      have hno := hid (HNo.out ht)
      clear ht
      go_wp2_with fail
      refine HTd.out.mono ?_
      rintro e w4 ⟨rfl, b4⟩
      have HB4 := hid (HB3.out.trans (b4.mono HB3.out.size))
      have O4 := hid (own_below O3.out b4 (Nat.le_refl _))
      clear b4 HTd
      go_wp2_with fail
      go_roundw
      case rel => exact ⟨q + 1, A', c', by omega, by rw [show low + ((q + 1 : Nat) : Int) = low + q + 1 by omega] <;> rfl, by rw [hno.out], by rw [hno.out]; exact O4.out, HGS, HB4.out⟩
      case measure => simp [intOf]; omega
     | false =>
      rw [ht] at HTd
      have hye := hid (HY.out ht)
      clear ht
      go_wp2_with fail
      refine HTd.out.mono ?_
      rintro e w4 ⟨rfl, b4⟩
      have HB4 := hid (HB3.out.trans (b4.mono HB3.out.size))
      have O4 := hid (own_below O3.out b4 (Nat.le_refl _))
      have s4 := HB4.out.size
      clear b4 HTd
      obtain ⟨m, hm⟩ : ∃ m, L0.length = m := ⟨_, rfl⟩
      have HM := hid hm
      have HOW := hid (show w4.ownsRow w1.heap.size 3 1 (.slice A' m c') m (cellsI L0) by have := O4.out; unfold OwnI at this; rwa [hm] at this)
      rw [hm] at hle ⊢
      clear hm
      go_wp2_with (first
       | (at_builtin; refine App.row_list _ rfl (.tmp 51) (.tmp 53) 26 rfl w1.heap.size 0 3 i0 _ 1 8 Try.underlying26 hi hz0 hz1 hz2 rfl (by decide) (.slice A' m c') m (cellsI L0) rfl (own_below HOW.out ((Below.refl _ _).alloc (Nat.le_refl _) _) (Nat.le_refl _)) (.slice (some ⟨w4.heap.size, 0, none⟩) 1 1) 1 [.int .i64 (low + q)] rfl (App.one_own (heap1_0 w4 _)) (by intro u hu; simp at hu; rw [hu]; rfl) (by unfold maxLen; omega) (by omega) (by simp; omega) ?_)
       | go_in)
      intro v5 w5 o5 g5 t5
      have HB5 := hid ((HB4.out.alloc s4 (.cells #[.int .i64 (low + q)] 3)).trans ((Chg.of_grown g5).below (by simp; omega) (fun x hx hc => by have := (World.ownsRow.lt HOW.out x hc.symm).1; omega)))
      obtain ⟨A5, c5, rfl⟩ := own_slice o5
      have O5 := hid (show OwnI w5 w1.heap.size (.slice A5 (L0 ++ [low + q]).length c5) (L0 ++ [low + q]) by unfold OwnI; rw [List.length_append, List.length_singleton, HM.out, cellsI_append]; exact o5)
      clear o5 g5 t5
      go_wp2_with fail
      go_roundw
      case rel => exact ⟨q + 1, A5, c5, by omega, by rw [show low + ((q + 1 : Nat) : Int) = low + q + 1 by omega] <;> rfl, by rw [hye.out, List.length_append, List.length_singleton, HM.out], by rw [hye.out]; exact O5.out, HGS, HB5.out⟩
      case measure => simp [intOf]; omega
   ·obtain rfl : q = N := by omega
    have hr := hid (HR0.out.trans (if_pos (by first | exact ⟨rfl, HAG.out⟩ | exact ⟨trivial, HAG.out⟩)))
    go_wp2_with fail
    go_ret2
    exact ⟨A', c', by rw [hr.out] <;> rfl, by rw [hr.out]; exact own_mono O.out (Nat.le_of_lt l1), B1.out.trans (HB.out.mono B1.out.size)⟩
end Go.Proofs.Ytikdcnlbjpabjab.LkaP
-- squeezed
