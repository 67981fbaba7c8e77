import Derived.Test.YtdmcgkcpclepfaaXpl
import Derived.Test.YtdmcgkcpclepfaaWr
import Derived.Test.YtdmcgkcpclepfaaDropI
import Derived.IntWalk
set_option linter.all false
namespace Go.Proofs.Ytdmcgkcpclepfaa.Xni
open Lib (hid)
open Go.ChangeShapes Go.WideShapes Go.ChangeAt Go.RowKit
open PL Mem Sst To MarkP Res Prg PrgS StpS IntsP DeferP DeferW DropI Xcp Wr
set_option maxHeartbeats 8000000 in
set_option maxRecDepth 100000 in
theorem inlI_any (lo n c : Nat) (A : Option Addr) (p : Pg) (f : Int) (hn : n ≤ 2000000) (hl : p.length = n) (hsm : Small p 2000000) (w : World) (ho : OwnP w lo (.slice A n c) p) :
  Calls Try.prog 32 #[.agg #[.slice A n c], .int .i64 f] w (ProgR (inlR p f) w) := by
 have hF := hid (fun w hr hB => AskP.isFunction_any w.heap.size A n c p f (by omega) hl (hsm.mono (by omega)) w hr hB)
 have hO := hid ho
 clear ho
 cases hfn : isFn p f with
 | false =>
  have hs := hid (show inlR p f = ([], false) by unfold inlR; rw [hfn]; rfl)
  rw [hfn] at hF
  clear hfn hl hsm
  go_enter Try.func32, Try.ntmps32
  go_wp2_with fail
  refine (hF.out _ (hO.out.below (two_below n c A w)).rd (Nat.le_refl _)).mono ?_
  rintro e w1 ⟨rfl, b1⟩
  obtain ⟨d0, d1, bb1, s1⟩ := two_facts b1
  have z0 : w1.cell? ⟨w.heap.size, 0, none⟩ = some (.slice A n c) := d0.cells 0
  have z1 : w1.cell? ⟨w.heap.size + 1, 0, none⟩ = some (.slice none 0 0) := d1.cells 0
  have f1 := d1.frozen 0
  clear d0 d1 b1
  go_wp2_with fail
  exact bodyPost_ret (v := .tuple #[.agg #[.slice none 0 0], .bool false]) (by simp [results, Try.results32, go_sem, z1]) rfl (by rw [hs.out]; exact ⟨none, 0, rfl, own_nil _ _, bb1.setCell (by show w.heap.size ≤ w.heap.size + 1; omega) _⟩)
 | true =>
  rw [hfn] at hF
  obtain ⟨hok, f0, fn, hx⟩ := isFn_parts hfn
  obtain ⟨j, rfl⟩ := Int.eq_ofNat_of_zero_le f0
  have h8 := body_le hfn
  have hR : inlR p j = (p.set j ((body p j).map (inlS p)), true) := by unfold inlR; rw [hfn, if_pos rfl, Int.toNat_natCast]
  rw [Int.toNat_natCast] at hx
  rw [hl] at fn
  obtain ⟨hn1, hn6, hsm8⟩ := okProg_parts hok
  have hC := hid (fun (W : World) (h : OwnP W lo (.slice A n c) p) => CopyP.copyProgram_any lo n c A p (by omega) hl (fun i xs h => Nat.le_trans (hsm8 i xs h).1 (by omega)) W h)
  have hst := (hsm8 j _ hx).2
  generalize body p j = xs at *
  have hS := hid hR
  have HX := hid hx
  have hL := hid hl
  obtain ⟨g0, Ai0, ci0, rfl, hc0, hrow0, -, -⟩ := (OwnH.of hO.out).row hx
  have hg0 : g0 < w.heap.size := World.block_lt_of_cell? w _ hc0
  have HROW := hid (fun (i : Nat) (ys : List Tr) (hy : p[i]? = some ys) => (show ∃ Ay cy, w.cell? ⟨g0, i, none⟩ = some (.slice Ay ys.length cy) from by
   obtain ⟨g', Ay, cy, e, hc, -⟩ := (OwnH.of hO.out).row hy
   cases e
   exact ⟨Ay, cy, hc⟩))
  have HST := hid (fun (k : Nat) (s0 s1 s2 : Int) (h : xs[k]? = some (s0, s1, s2)) (h4 : s0 = 4) => (show ∃ (a : Nat) (ys : List Tr), s1 = a ∧ p[a]? = some ys ∧ a < n from by
   have h1 := hst _ (List.mem_of_getElem? h)
   subst h4
   unfold okStep at h1
   rw [if_neg (by simp), if_neg (by simp), if_pos (.inl rfl), Bool.and_eq_true, Bool.and_eq_true, decide_eq_true_eq, decide_eq_true_eq] at h1
   obtain ⟨⟨h2, h3⟩, -⟩ := h1
   dsimp only at h2 h3
   obtain ⟨a, rfl⟩ := Int.eq_ofNat_of_zero_le h2
   exact ⟨a, _, rfl, List.getElem?_eq_getElem (by omega), by omega⟩))
  obtain ⟨m, hm⟩ : ∃ m, xs.length = m := ⟨_, rfl⟩
  have HM := hid hm
  rw [hm] at h8 hc0 hrow0
  have HC0 := hid hc0
  have HR0 := hid hrow0
  clear hc0 hrow0 hl hsm hfn hok hx hR hn1 hsm8 hm hst
  go_enter Try.func32, Try.ntmps32
  go_wp2_with fail
  refine (hF.out _ (hO.out.below (two_below n c _ w)).rd (Nat.le_refl _)).mono ?_
  rintro e w1 ⟨rfl, b1⟩
  obtain ⟨d0, d1, bb1, s1⟩ := two_facts b1
  have z0 : w1.cell? ⟨w.heap.size, 0, none⟩ = some (.slice (some ⟨g0, 0, none⟩) n c) := d0.cells 0
  clear b1
  go_wp2_with fail
  refine (hC.out _ (hO.out.below bb1)).mono ?_
  rintro e w2 ⟨A2, c2, rfl, o2, b2⟩
  have D1 := hid (d1.below b2 d1.lt)
  have D0 := hid (d0.below b2 d0.lt)
  have bb2 := hid (bb1.trans (b2.mono bb1.size))
  have s2 := b2.size
  obtain ⟨g, Ai, ci, rfl, hc2, hrow, hbd, hput⟩ := (OwnH.of o2).row HX.out
  have hgl : g < w2.heap.size := World.block_lt_of_cell? w2 _ hc2
  rw [HM.out] at hc2 hrow hbd hput
  have HP := hid hput
  have HB := hid hbd
  have HR := hid hrow
  have HC2 := hid hc2
  have HO2 := hid (show ∃ vals, w2.ownsRow w1.heap.size 59 1 (.slice (some ⟨g, 0, none⟩) n c2) p.length vals from let ⟨vals, _, h, _⟩ := o2; ⟨vals, h⟩)
  clear z0 d0 d1 bb1 b2 o2 hput hbd hrow hc2 hF hC hO
  go_upto_region 4 with fail
  change (fun V => Code.wp _ _ _ _ V) _
  refine gen_world (X := fun V => Blk V w2.heap.size 31 #[.slice (some ⟨g, 0, none⟩) n c2] ∧ Below w2.heap.size w2 V) ⟨heap1_0 w2 _, (Below.refl _ _).alloc (Nat.le_refl _) _⟩ ?_
  rintro W3 ⟨B3, b3⟩
  have R3 := hid (own_below HR.out b3 (Nat.le_refl _))
  have D3 := hid (D1.out.below b3 D1.out.lt)
  have D03 := hid (D0.out.below b3 D0.out.lt)
  have B3' := hid B3
  have b3' := hid b3
  have s3 := B3.lt
  have D1l := D1.out.lt
  have bbw : Below w.heap.size w W3 := bb2.out.trans (b3.mono (by omega))
  have C3 := hid (Chg.of_below (C := fun b => (Value.slice Ai m ci).ownBlock = some b) b3)
  have hne : (Value.slice Ai m ci).ownBlock ≠ some g := fun e => by obtain ⟨vals, hv⟩ := HO2.out; exact App.own_ne hv HR.out (by decide) rfl e
  have far : ∀ (V : World), Chg (fun b => (Value.slice Ai m ci).ownBlock = some b) W3 V → ∀ (x : Addr), x.block < w.heap.size → V.cell? x = w.cell? x := fun V c x hx => (c.cell (by have := bbw.size; omega) (fun e => by have := HB.out _ e; omega)).trans (bbw.cell hx)
  have HYY := hid (fun (V : World) (cg : Chg (fun b => (Value.slice Ai m ci).ownBlock = some b) W3 V) => (show V.cell? ⟨w2.heap.size, 0, none⟩ = some (.slice (some ⟨g, 0, none⟩) n c2) ∧ V.cell? ⟨g, j, none⟩ = some (.slice Ai m ci) ∧ V.cell? ⟨w.heap.size, 0, none⟩ = some (.slice (some ⟨g0, 0, none⟩) n c) ∧ V.cell? ⟨g0, j, none⟩ = some (.slice Ai0 m ci0) from
   ⟨(B3'.out.chg cg (fun e => by have := HB.out _ e; omega)).cells 0, (cg.cell (p := ⟨g, j, none⟩) (by show g < W3.heap.size; omega) hne).trans ((b3.cell (p := ⟨g, j, none⟩) hgl).trans HC2.out),
    (D03.out.chg cg (fun e => by have := HB.out _ e; omega)).cells 0, (far V cg ⟨g0, j, none⟩ hg0).trans HC0.out⟩))
  have HFAR := hid far
  have HSZ := hid (show w1.heap.size ≤ w2.heap.size ∧ w2.heap.size < W3.heap.size ∧ w.heap.size + 2 ≤ w1.heap.size ∧ g0 < w.heap.size from ⟨s2, s3, s1, hg0⟩)
  have hj0 : (0 : Int) ≤ (j : Int) := by omega
  have CR := hid (Chg.refl (fun b => (Value.slice Ai m ci).ownBlock = some b) W3)
  obtain ⟨y0, y1, x0, x1⟩ := HYY.out W3 CR.out
  clear b3 B3 s2 s3 D1l s1 hgl far bbw hg0 hne
  generalize w2.heap.size = hi at *
  go_wp2_with fail
  go_loopw [22] (fun i wr => ∃ k : Nat, k ≤ m ∧ i = .int .i64 k ∧ wr.ownsRow w1.heap.size 58 3 (.slice Ai m ci) m (cells3 (dpart (inlS p) xs k)) ∧ Chg (fun b => (Value.slice Ai m ci).ownBlock = some b) W3 wr) (fun i _ => m - (intOf i).toNat)
  case atStart => exact ⟨0, Nat.zero_le _, rfl, by rw [show dpart (inlS p) xs 0 = xs by simp [dpart]]; exact R3.out, CR.out⟩
  case round =>
   obtain ⟨k, hk, rfl, hrow, hch⟩ := hrel
   clear y0 y1 x0 x1
   have HCH := hid hch
   have HRW := hid hrow
   obtain ⟨y0, y1, x0, x1⟩ := HYY.out wr hch
   by_cases hkm : k < m
   ·obtain ⟨⟨s0, s1, s2⟩, hs⟩ : ∃ s, xs[k]? = some s := ⟨_, List.getElem?_eq_getElem (by rw [HM.out]; exact hkm)⟩
    obtain ⟨gk, rfl, hgk, -, -, -, -, p0, p1, p2, -, -⟩ := own_at HR0.out hs hkm
    dsimp only at p0 p1 p2
    have x4 := (HFAR.out wr hch ⟨gk, k * 3, none⟩ hgk).trans p0
    have x5 := (HFAR.out wr hch ⟨gk, k * 3 + 1, none⟩ hgk).trans p1
    have x6 := (HFAR.out wr hch ⟨gk, k * 3 + 2, none⟩ hgk).trans p2
    have HS := hid hs
    have hwl : w.heap.size < wr.heap.size := by have := hch.size; have := HSZ.out; omega
    have hhi : hi < wr.heap.size := by have := hch.size; have := HSZ.out; omega
    clear hrow hch hs p0 p1 p2 hgk
    go_upto_region 7 with fail
    change (fun V => Code.wp _ _ _ _ V) _
    refine gen_world (X := fun V => Blk V wr.heap.size 58 #[.int .i64 s0, .int .i64 s1, .int .i64 s2] ∧ Below wr.heap.size wr V) ⟨heap1_0 wr _, (Below.refl _ _).alloc (Nat.le_refl _) _⟩ ?_
    rintro Z ⟨eZ, bZ⟩
    have cz := HCH.out.trans (Chg.of_below (C := fun _ => False) bZ) (fun _ _ h => h.elim)
    have HZ := hid cz
    have HZR := hid (own_below HRW.out bZ (Nat.le_refl _))
    clear y0 y1 x0 x1 x4 x5 x6
    obtain ⟨y0, y1, x0, x1⟩ := HYY.out Z cz
    have e0 : Z.cell? ⟨wr.heap.size, 0, none⟩ = some (.int .i64 s0) := eZ.cells 0
    have e1 : Z.cell? ⟨wr.heap.size, 1, none⟩ = some (.int .i64 s1) := eZ.cells 1
    clear eZ bZ cz hwl hhi HRW HCH
    generalize wr.heap.size = bx at *
    by_cases h4 : s0 = 4
    ·obtain ⟨a, ys, rfl, hya, han⟩ := HST.out k s0 s1 s2 HS.out h4
     obtain ⟨Ay, cy, hcy⟩ := HROW.out a ys hya
     have x7 := (HFAR.out Z HZ.out ⟨g0, a, none⟩ HSZ.out.2.2.2).trans hcy
     have hget : p.getD a [] = ys := by rw [List.getD_eq_getElem?_getD, hya]; rfl
     clear hcy hya
     by_cases h0 : ys.length = 0
     ·have HI := hid (show inlS p (s0, (a : Int), s2) = (1, 2, 0) by unfold inlS; exact if_pos ⟨h4, by rw [Int.toNat_natCast, hget]; exact h0⟩)
      subst h4
      rw [h0] at x7
      obtain ⟨gi, rfl, hgi, -, -, -, -, v0, v1, v2, -, -⟩ := own_at HZR.out (part_at (inlS p) xs k _ HS.out) hkm
      have fr := HZR.out.frozenAt
      clear hget h0
      go_wp2_with fail
      go_roundw
      case rel =>
       refine ⟨k + 1, by omega, by go_num, ?_, chg_set3 (C := fun b => (Value.slice (some ⟨gi, 0, none⟩) m ci).ownBlock = some b) HZ.out rfl _ _ _ _ _ _⟩
       have := own_set3 (s := ((1 : Int), (2 : Int), (0 : Int))) HZR.out rfl (k := k) (by rw [part_length (inlS p) xs k (by rw [HM.out]; omega), HM.out]; exact hkm)
       rw [← HI.out, part_next (inlS p) xs k _ HS.out, HI.out] at this
       exact this
      case measure => simp [intOf]; omega
     ·have HI := hid (show inlS p (s0, (a : Int), s2) = (s0, (a : Int), s2) by unfold inlS; exact if_neg (fun h => h0 (by have := h.2; rwa [Int.toNat_natCast, hget] at this)))
      have HN := hid (part_same (inlS p) xs k _ HS.out HI.out)
      subst h4
      have kz : (((ys.length : Nat) : Int) == 0) = false := by simp; exact fun e => h0 (by rw [e]; rfl)
      clear hget h0
      go_wp2_with fail
      go_roundw
      case rel => exact ⟨k + 1, by omega, by go_num, by rw [← HN.out]; exact HZR.out, HZ.out⟩
      case measure => simp [intOf]; omega
    ·have HI := hid (show inlS p (s0, s1, s2) = (s0, s1, s2) by unfold inlS; exact if_neg (fun h => h4 h.1))
     have HN := hid (part_same (inlS p) xs k _ HS.out HI.out)
     have k4 : (s0 == 4) = false := by simpa using h4
     clear h4
     go_wp2_with fail
     go_roundw
     case rel => exact ⟨k + 1, by omega, by go_num, by rw [← HN.out]; exact HZR.out, HZ.out⟩
     case measure => simp [intOf]; omega
   ·obtain rfl : k = m := by omega
    rw [part_all (inlS p) xs k HM.out.symm] at hrow
    have O4 := hid hrow
    obtain ⟨hh1, hh2, hh3, hh4⟩ := HSZ.out
    have hb6 := B3'.out.chg hch (fun hc => by have := HB.out _ hc; omega)
    have hb1 := D3.out.chg hch (fun hc => by have := (HB.out _ hc).1; omega)
    have z6 : wr.cell? ⟨hi, 0, none⟩ = some (.slice (some ⟨g, 0, none⟩) n c2) := hb6.cells 0
    have z1 : wr.cell? ⟨w.heap.size + 1, 0, none⟩ = some (.slice none 0 0) := hb1.cells 0
    have f1 := hb1.frozen 0
    clear hb6 hb1 hrow hch hh1 hh2 hh3 hh4
    go_wp2_with fail
    refine bodyPost_ret (v := .tuple #[.agg #[.slice (some ⟨g, 0, none⟩) n c2], .bool true]) (by simp [results, Try.results32, go_sem, z1]) rfl ?_
    obtain ⟨hh1, hh2, hh3, hh4⟩ := HSZ.out
    have fin := HP.out wr (xs.map (inlS p)) (by rw [List.length_map, HM.out]) O4.out (C3.out.trans HCH.out (fun _ _ h => h))
    have fin2 := (fin.keep (w' := wr.setCell ⟨w.heap.size + 1, 0, none⟩ (.slice (some ⟨g, 0, none⟩) n c2)) (fun b h1 _ => Below.heap_setCell _ _ _ _ (by show b ≠ w.heap.size + 1; omega))).own.mono (show w.heap.size ≤ w1.heap.size by omega)
    rw [hS.out]
    have hl : (p.set j (xs.map (inlS p))).length = n := by rw [List.length_set]; exact hL.out
    refine ⟨_, _, by rw [hl], by rw [hl]; exact fin2, ?_⟩
    have t := (bb2.out.trans (b3'.out.mono (by omega))).trans (HCH.out.below (B := w.heap.size) (by have := b3'.out.size; omega) (fun x hx hx' => by have := (HB.out x hx').1; omega))
    exact t.setCell (by show w.heap.size ≤ w.heap.size + 1; omega) _
end Go.Proofs.Ytdmcgkcpclepfaa.Xni
-- squeezed
