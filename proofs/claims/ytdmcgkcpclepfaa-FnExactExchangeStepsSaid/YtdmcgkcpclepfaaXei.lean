import Derived.Test.YtdmcgkcpclepfaaXpl
import Derived.Test.YtdmcgkcpclepfaaWr
import Derived.Test.YtdmcgkcpclepfaaDropI
import Derived.RegionTactic
import Derived.BigRegion
import Derived.IntWalk
set_option linter.all false
namespace Go.Proofs.Ytdmcgkcpclepfaa.Xei
open Lib (hid)
open Go.ChangeShapes Go.WideShapes Go.ChangeAt Go.RowKit
open PL Mem Sst To MarkP Res Prg PrgS StpS IntsP DeferP DeferW DropI Xcp Xpl Wr
set_option maxHeartbeats 40000000 in
set_option maxRecDepth 100000 in
theorem exI_any (lo n c : Nat) (A : Option Addr) (p : Pg) (f k : Int) (hn : n ≤ 2000000) (hl : p.length = n) (hsm : Small p 2000000) (w : World) (ho : OwnP w lo (.slice A n c) p) :
  Calls Try.prog 29 #[.agg #[.slice A n c], .int .i64 f, .int .i64 k] w (ProgR (exR p f k) w) := by
 have hP := hid (fun w hr => isPair_any n c A p f k (by omega) hl (hsm.mono (by omega)) w hr)
 have hO := hid ho
 clear ho
 cases hpr : isPair p f k with
 | false =>
  have hs := hid (show exR p f k = ([], false) by unfold exR; rw [hpr]; rfl)
  rw [hpr] at hP
  clear hpr hl hsm
  go_enter Try.func29, Try.ntmps29
  go_wp2_with fail
  refine (hP.out _ (hO.out.below (two_below n c A w)).rd).mono ?_
  rintro e w1 ⟨rfl, b1⟩
  obtain ⟨d0, d1, bb1, s1⟩ := two_facts b1
  have z0 : w1.cell? ⟨w.heap.size, 0, none⟩ = some (.slice A n c) := d0.cells 0
  have z1 : w1.cell? ⟨w.heap.size + 1, 0, none⟩ = some (.slice none 0 0) := d1.cells 0
  have f1 := d1.frozen 0
  clear d0 d1 b1
  go_wp2_with fail
  exact bodyPost_ret (v := .tuple #[.agg #[.slice none 0 0], .bool false]) (by simp [results, Try.results29, go_sem, z1]) rfl (by rw [hs.out]; exact ⟨none, 0, rfl, own_nil _ _, bb1.setCell (by show w.heap.size ≤ w.heap.size + 1; omega) _⟩)
 | true =>
  rw [hpr] at hP
  have hpr' := hpr
  unfold isPair at hpr'
  simp only [Bool.and_eq_true, decide_eq_true_eq] at hpr'
  obtain ⟨⟨hfn, hk0⟩, hk1⟩ := hpr'
  obtain ⟨hok, f0, fn, hx⟩ := isFn_parts hfn
  obtain ⟨j, rfl⟩ := Int.eq_ofNat_of_zero_le f0
  obtain ⟨q, rfl⟩ := Int.eq_ofNat_of_zero_le hk0
  have h8 := body_le hfn
  have hR : exR p j q = (p.set j (((body p j).set q ((body p j).getD (q + 1) (0, 0, 0))).set (q + 1) ((body p j).getD q (0, 0, 0))), true) := by
   unfold exR
   rw [if_pos hpr]
   unfold stepAt
   rw [show ((q : Int) + 1).toNat = q + 1 by omega]
   simp only [Int.toNat_natCast]
  rw [Int.toNat_natCast] at hx
  rw [hl] at fn
  obtain ⟨hn1, hn6, hsm8⟩ := okProg_parts hok
  have hC := hid (fun (W : World) (h : OwnP W lo (.slice A n c) p) => CopyP.copyProgram_any lo n c A p (by omega) hl (fun i xs h => Nat.le_trans (hsm8 i xs h).1 (by omega)) W h)
  generalize body p j = xs at *
  have hq : q + 1 < xs.length := by omega
  obtain ⟨s, hs⟩ : ∃ s, xs[q]? = some s := ⟨_, List.getElem?_eq_getElem (by omega)⟩
  obtain ⟨t, ht⟩ : ∃ t, xs[q + 1]? = some t := ⟨_, List.getElem?_eq_getElem hq⟩
  rw [List.getD_eq_getElem?_getD, List.getD_eq_getElem?_getD, hs, ht, Option.getD_some, Option.getD_some] at hR
  have hS := hid hR
  have HX := hid hx
  have HT := hid ht
  have HSS := hid hs
  have hL := hid hl
  obtain ⟨m, hm⟩ : ∃ m, xs.length = m := ⟨_, rfl⟩
  have HM := hid hm
  rw [hm] at hq h8
  clear hpr hl hsm hfn hok hx ht hs hR hn1 hsm8 hm hk1 hn6
  go_enter Try.func29, Try.ntmps29
  go_wp2_with fail
  refine (hP.out _ (hO.out.below (two_below n c A w)).rd).mono ?_
  rintro e w1 ⟨rfl, b1⟩
  obtain ⟨d0, d1, bb1, s1⟩ := two_facts b1
  have z0 : w1.cell? ⟨w.heap.size, 0, none⟩ = some (.slice A n c) := d0.cells 0
  clear b1
  go_wp2_with fail
  refine (hC.out _ (hO.out.below bb1)).mono ?_
  rintro e w2 ⟨A2, c2, rfl, o2, b2⟩
  have D1 := hid (d1.below b2 d1.lt)
  have bb2 := hid (bb1.trans (b2.mono bb1.size))
  have s2 := b2.size
  obtain ⟨g, Ai, ci, rfl, hc2, hrow, hbd, hput⟩ := (OwnH.of o2).row HX.out
  have hgl : g < w2.heap.size := World.block_lt_of_cell? w2 _ hc2
  rw [HM.out] at hc2 hrow hbd hput
  have HP := hid hput
  have HB := hid hbd
  have HR := hid hrow
  have HC2 := hid hc2
  clear z0 d0 d1 bb1 b2 o2 hput hbd hrow hc2 hP hC hO
  go_upto_region 4 with fail
  change (fun V => Code.wp _ _ _ _ V) _
  refine gen_world (X := fun V => Blk V w2.heap.size 31 #[.slice (some ⟨g, 0, none⟩) n c2] ∧ Below w2.heap.size w2 V) ⟨heap1_0 w2 _, (Below.refl _ _).alloc (Nat.le_refl _) _⟩ ?_
  rintro W3 ⟨B3, b3⟩
  have R3 := hid (own_below HR.out b3 (Nat.le_refl _))
  have D3 := hid (D1.out.below b3 D1.out.lt)
  have B3' := hid B3
  have b3' := hid b3
  have s3 := B3.lt
  have D1l := D1.out.lt
  have y0 : W3.cell? ⟨w2.heap.size, 0, none⟩ = some (.slice (some ⟨g, 0, none⟩) n c2) := B3.cells 0
  have y1 : W3.cell? ⟨g, j, none⟩ = some (.slice Ai m ci) := (b3.cell (p := ⟨g, j, none⟩) hgl).trans HC2.out
  obtain ⟨gi, rfl, hgi, -, -, -, -, v0, v1, v2, -, -⟩ := own_at R3.out HSS.out (by omega)
  obtain ⟨gi', e1, -, -, -, -, -, u0, u1, u2, -, -⟩ := own_at R3.out HT.out hq
  obtain rfl : gi = gi' := by simpa using e1
  have fr := R3.out.frozenAt
  have C3 := hid (Chg.of_below (C := fun b => (Value.slice (some ⟨gi, 0, none⟩) m ci).ownBlock = some b) b3)
  obtain ⟨s0, s1', s2'⟩ := s
  obtain ⟨t0, t1, t2⟩ := t
  dsimp only at v0 v1 v2 u0 u1 u2
  have hj0 : (0 : Int) ≤ (j : Int) := by omega
  have hwr : IntKind.i64.wrap ((q : Int) + 1) = ((q + 1 : Nat) : Int) := by rw [IntWalk.i64_in _ (by omega)]; omega
  clear b3 B3 D1 e1
  have HSZ := hid (show w1.heap.size ≤ w2.heap.size ∧ w2.heap.size < W3.heap.size ∧ w.heap.size + 2 ≤ w1.heap.size from ⟨s2, s3, s1⟩)
  clear s2 s3 D1l s1 hgl hwr
  generalize w2.heap.size = hi at *
  go_wp2_with fail
  clear y0 y1
  go_region
  change (fun V => Exit.then _ _ _ _ V) _
  refine gen_world (X := fun V => V.ownsRow w1.heap.size 58 3 (.slice (some ⟨gi, 0, none⟩) m ci) m (cells3 ((xs.set q (t0, t1, t2)).set (q + 1) (s0, s1', s2'))) ∧ Chg (fun b => (Value.slice (some ⟨gi, 0, none⟩) m ci).ownBlock = some b) W3 V) ⟨own_below (own_set3 (s := (s0, s1', s2')) (k := q + 1) (own_set3 (s := (t0, t1, t2)) (k := q) R3.out rfl (by rw [HM.out]; omega)) rfl (by rw [List.length_set, HM.out]; exact hq)) (Below.refl _ _).drew (Nat.le_refl _), (chg_set3 (C := fun b => (Value.slice (some ⟨gi, 0, none⟩) m ci).ownBlock = some b) (chg_set3 (C := fun b => (Value.slice (some ⟨gi, 0, none⟩) m ci).ownBlock = some b) (Chg.refl _ W3) rfl _ _ _ _ _ _) rfl _ _ _ _ _ _).trans (Chg.drew (fun b => (Value.slice (some ⟨gi, 0, none⟩) m ci).ownBlock = some b) _) (fun _ _ h => h)⟩ ?_
  rintro W4 ⟨o4, c4⟩
  have hh := HSZ.out
  have hb6 := B3'.out.chg c4 (fun hc => by have := HB.out _ hc; omega)
  have hb1 := D3.out.chg c4 (fun hc => by have := (HB.out _ hc).1; omega)
  have z6 : W4.cell? ⟨hi, 0, none⟩ = some (.slice (some ⟨g, 0, none⟩) n c2) := hb6.cells 0
  have z1 : W4.cell? ⟨w.heap.size + 1, 0, none⟩ = some (.slice none 0 0) := hb1.cells 0
  have f1 := hb1.frozen 0
  have O4 := hid o4
  have C4 := hid c4
  clear hb6 hb1 v0 v1 v2 u0 u1 u2 fr o4 c4 hh
  go_wp2_with fail
  refine bodyPost_ret (v := .tuple #[.agg #[.slice (some ⟨g, 0, none⟩) n c2], .bool true]) (by simp [results, Try.results29, go_sem, z1]) rfl ?_
  have hh := HSZ.out
  have fin := HP.out W4 ((xs.set q (t0, t1, t2)).set (q + 1) (s0, s1', s2')) (by rw [List.length_set, List.length_set, HM.out]) O4.out (C3.out.trans C4.out (fun _ _ h => h))
  have fin2 := (fin.keep (w' := W4.setCell ⟨w.heap.size + 1, 0, none⟩ (.slice (some ⟨g, 0, none⟩) n c2)) (fun b h1 _ => Below.heap_setCell _ _ _ _ (by show b ≠ w.heap.size + 1; omega))).own.mono (show w.heap.size ≤ w1.heap.size by omega)
  rw [hS.out]
  have hl : (p.set j ((xs.set q (t0, t1, t2)).set (q + 1) (s0, s1', s2'))).length = n := by rw [List.length_set]; exact hL.out
  refine ⟨_, _, by rw [hl], by rw [hl]; exact fin2, ?_⟩
  have t := (bb2.out.trans (b3'.out.mono (by omega))).trans (C4.out.below (B := w.heap.size) (by have := b3'.out.size; omega) (fun x hx hx' => by have := (HB.out x hx').1; omega))
  exact t.setCell (by show w.heap.size ≤ w.heap.size + 1; omega) _
end Go.Proofs.Ytdmcgkcpclepfaa.Xei
-- squeezed
