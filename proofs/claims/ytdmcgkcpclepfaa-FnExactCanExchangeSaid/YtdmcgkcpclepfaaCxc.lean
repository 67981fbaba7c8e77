import Derived.Test.YtdmcgkcpclepfaaCxi
import Derived.Test.YtdmcgkcpclepfaaCxg
import Derived.RegionTactic
import Derived.BigRegion
import Derived.IntWalk
set_option linter.all false
namespace Go.Proofs.Ytdmcgkcpclepfaa.Cxc
open Lib (hid)
open Go.ChangeShapes Go.WideShapes Go.ChangeAt Go.RowKit
open PL Mem Sst To AskP StpS Res Prg PrgS IntsP LawI SetM Xcp Xpl Xrs Xri Cxp Cxs Cxi Cxg
set_option maxRecDepth 100000 in
set_option maxHeartbeats 8000000 in
theorem canS_any (lo n c : Nat) (A : Option Addr) (p : Pg) (f k : Int) (hn : n ≤ 9223372036854775807) (hl : p.length = n) (hsm : Small p 9223372036854775807) (w : World) (ho : OwnP w lo (.slice A n c) p) :
  Calls Try.prog 26 #[.agg #[.slice A n c], .int .i64 f, .int .i64 k] w fun e w' => e = .returned (.tuple #[.bool (canR p f k).1, .bool (canR p f k).2]) ∧ Below w.heap.size w w' := by
 have hP := hid (fun W (h : Below w.heap.size w W) => l9Next_any n c A p f k hn hl hsm W ((ho.rd.below h).more h.size))
 have HRW := hid (fun (i : Nat) (xs : List Tr) (hx : p[i]? = some xs) V (b : Below w.heap.size w V) => (ho.rd.below b) i xs hx)
 have H1 := hid (fun o : Obj => (show Below w.heap.size w (w.alloc o) from (Below.refl _ _).alloc (Nat.le_refl _) _))
 have z0 : (w.alloc (.cells #[.slice A n c] 31)).cell? ⟨w.heap.size, 0, none⟩ = some (.slice A n c) := cell_of_row _ _ 0 _ _ (0, 0) (heap1_0 w _)
 have hkeep : ∀ W, Below (w.alloc (.cells #[.slice A n c] 31)).heap.size (w.alloc (.cells #[.slice A n c] 31)) W → W.cell? ⟨w.heap.size, 0, none⟩ = some (.slice A n c) := fun W h => (h.cell (by show w.heap.size < _; simp)).trans z0
 have HK := hid hkeep
 clear hkeep z0
 cases hpl : isPair p f k with
 | false =>
  rw [hpl] at hP
  have HS := hid (show canR p f k = (false, false) by unfold canR; rw [hpl]; rfl)
  clear hpl ho hl hsm
  go_enter Try.func26, Try.ntmps26
  go_wp2_with fail
  refine (hP.out _ (H1.out _)).mono ?_
  rintro e w1 ⟨rfl, b1⟩
  have BB := hid ((H1.out _).trans (b1.mono (by simp)))
  clear b1
  go_wp2_with fail
  go_ret2
  exact ⟨by rw [HS.out] <;> rfl, BB.out⟩
 | true =>
  rw [hpl] at hP
  have hpl' := hpl
  unfold isPair at hpl'
  simp only [Bool.and_eq_true, decide_eq_true_eq] at hpl'
  obtain ⟨⟨hfn, hk0⟩, hk1⟩ := hpl'
  obtain ⟨hok, f0, fn, hx⟩ := isFn_parts hfn
  obtain ⟨j, rfl⟩ := Int.eq_ofNat_of_zero_le f0
  obtain ⟨q, rfl⟩ := Int.eq_ofNat_of_zero_le hk0
  have h8 := body_le hfn
  have hR : canR p j q = (canS (body p j) q ((body p j).getD q (0, 0, 0)) ((body p j).getD (q + 1) (0, 0, 0)), true) := by
   unfold canR
   rw [if_pos hpl]
   unfold stepAt
   rw [show ((q : Int) + 1).toNat = q + 1 by omega]
   simp only [Int.toNat_natCast]
  rw [Int.toNat_natCast] at hx
  rw [hl] at fn
  have hst := ((okProg_parts hok).2.2 j _ hx).2
  generalize body p j = xs at *
  have hq : q + 1 < xs.length := by omega
  obtain ⟨⟨s0, s1, s2⟩, hs⟩ : ∃ s, xs[q]? = some s := ⟨_, List.getElem?_eq_getElem (by omega)⟩
  obtain ⟨⟨t0, t1, t2⟩, ht⟩ : ∃ t, xs[q + 1]? = some t := ⟨_, List.getElem?_eq_getElem hq⟩
  have oks := hst _ (List.mem_of_getElem? hs)
  have okt := hst _ (List.mem_of_getElem? ht)
  rw [List.getD_eq_getElem?_getD, List.getD_eq_getElem?_getD, hs, ht, Option.getD_some, Option.getD_some] at hR
  have HS := hid hR
  have HR1 := hid (HRW.out j xs hx)
  have HXS := hid hs
  have HXT := hid ht
  have cP := hid (fun W => l9Plain_any s0 s1 s2 W)
  have cQ := hid (fun W => l9Plain_any t0 t1 t2 W)
  have cH := hid (fun W => l9Shared_any s0 s1 s2 W)
  have cH' := hid (fun W => l9Shared_any t0 t1 t2 W)
  have cF := hid (fun W => l9Free_any s0 s1 s2 t0 t1 t2 (ok_kinds oks) (ok_kinds okt) W)
  have hc0 : canS xs q (s0, s1, s2) (t0, t1, t2) = (plainS (s0, s1, s2) && plainS (t0, t1, t2) && !(s0 == 3 && t0 == 3) && !(shareS (s0, s1, s2) && shareS (t0, t1, t2)) && freeS (s0, s1, s2) (t0, t1, t2) && !goesT xs ((q : Int) + 1)) := rfl
  have h33 : s0 = 3 → shareS (s0, s1, s2) = false := fun e => by unfold shareS; rw [e]; rfl
  have HGT := hid (show goesT xs ((q : Int) + 1) = xs.any (fun u => u.1 == 11 && u.2.1 == (q : Int) + 1) from rfl)
  generalize canS xs q (s0, s1, s2) (t0, t1, t2) = R at *
  generalize shareS (s0, s1, s2) = SS at *
  generalize shareS (t0, t1, t2) = ST at *
  generalize freeS (s0, s1, s2) (t0, t1, t2) = FR at *
  generalize goesT xs ((q : Int) + 1) = GT at *
  have HC0 := hid hc0
  have H33 := hid h33
  clear hc0 h33
  obtain ⟨m, hm⟩ : ∃ m, xs.length = m := ⟨_, rfl⟩
  have HM := hid hm
  rw [hm] at hq h8
  have hwr : IntKind.i64.wrap ((q : Int) + 1) = (q : Int) + 1 := IntWalk.i64_in _ (by omega)
  clear hpl ho hl hsm hfn hok hx hst hs ht hR HRW oks okt hk1 hm
  go_enter Try.func26, Try.ntmps26
  go_wp2_with fail
  refine (hP.out _ (H1.out _)).mono ?_
  rintro e w1 ⟨rfl, b1⟩
  have k1 := HK.out w1 b1
  have bb := (H1.out _).trans (b1.mono (by simp))
  have HRV := hid (fun (V : World) (b : Below w1.heap.size w1 V) => HR1.out V (bb.trans (b.mono bb.size)))
  obtain ⟨ad, Ai, ci, rfl, hab, h0, h1⟩ := HR1.out _ bb
  obtain ⟨sd, rfl, has, q0, q1, q2⟩ := h1 q _ HXS.out
  obtain ⟨sd', e1, has', r0, r1, r2⟩ := h1 (q + 1) _ HXT.out
  obtain rfl : sd = sd' := by simpa using e1
  have HR3 := hid (fun (V : World) (b : Below w1.heap.size w1 V) (i : Nat) (s : Tr) (h : xs[i]? = some s) => (show V.cell? (sd.add (i * 3)) = some (.int .i64 s.1) ∧ V.cell? ⟨(sd.add (i * 3)).block, (sd.add (i * 3)).off + 1, none⟩ = some (.int .i64 s.2.1) from by
   obtain ⟨sd2, e2, -, v0, v1, -⟩ := (Rd3.below h1 (b.mono bb.size)) i s h
   cases e2
   exact ⟨v0, v1⟩))
  have HRD := hid (fun (V : World) (b : Below w1.heap.size w1 V) => (show Rd3 V w.heap.size (some sd) xs from h1.below (b.mono bb.size)))
  dsimp only at q0 q1 q2 r0 r1 r2
  rw [HM.out] at h0
  have BB := hid bb
  have hsd : sd.block < w1.heap.size := Nat.lt_of_lt_of_le has bb.size
  have HAB := hid (fun (V : World) (b : Below w1.heap.size w1 V) => (show V.cell? (sd.add (q * 3)) = some (.int .i64 s0) ∧ V.cell? ⟨(sd.add (q * 3)).block, (sd.add (q * 3)).off + 1, none⟩ = some (.int .i64 s1) ∧ V.cell? ⟨(sd.add (q * 3)).block, (sd.add (q * 3)).off + 2, none⟩ = some (.int .i64 s2) ∧ V.cell? (sd.add ((q + 1) * 3)) = some (.int .i64 t0) ∧ V.cell? ⟨(sd.add ((q + 1) * 3)).block, (sd.add ((q + 1) * 3)).off + 1, none⟩ = some (.int .i64 t1) ∧ V.cell? ⟨(sd.add ((q + 1) * 3)).block, (sd.add ((q + 1) * 3)).off + 2, none⟩ = some (.int .i64 t2) from
   ⟨(b.cell (by rw [block_of_add]; exact hsd)).trans q0, (b.cell (by show (sd.add (q * 3)).block < _; rw [block_of_add]; exact hsd)).trans q1, (b.cell (by show (sd.add (q * 3)).block < _; rw [block_of_add]; exact hsd)).trans q2, (b.cell (by rw [block_of_add]; exact hsd)).trans r0, (b.cell (by show (sd.add ((q + 1) * 3)).block < _; rw [block_of_add]; exact hsd)).trans r1, (b.cell (by show (sd.add ((q + 1) * 3)).block < _; rw [block_of_add]; exact hsd)).trans r2⟩))
  have LA := fun o => HAB.out (w1.alloc o) (App.Bl.alloc (App.Bl.refl _) _)
  have LB := fun o o' => HAB.out ((w1.alloc o).alloc o') (App.Bl.alloc (App.Bl.alloc (App.Bl.refl _) _) _)
  have a0 := fun o => (LA o).1
  have a1 := fun o => (LA o).2.1
  have a2 := fun o => (LA o).2.2.1
  have a3 := fun o => (LA o).2.2.2.1
  have a4 := fun o => (LA o).2.2.2.2.1
  have a5 := fun o => (LA o).2.2.2.2.2
  have c0 := fun o o' => (LB o o').1
  have c1 := fun o o' => (LB o o').2.1
  have c2 := fun o o' => (LB o o').2.2.1
  have c3 := fun o o' => (LB o o').2.2.2.1
  have c4 := fun o o' => (LB o o').2.2.2.2.1
  have c5 := fun o o' => (LB o o').2.2.2.2.2
  clear bb b1 HR1 hP HK H1 h1 e1 HRV LA LB hsd
  go_upto_region 4 with fail
  clear h0 k1
  go_cut [9, 10] from 22 to 30 (fun s9 s10 wx => ∃ g1 g2, s9 = .pointer (some ⟨g1, 0, none⟩) ∧ s10 = .pointer (some ⟨g2, 0, none⟩) ∧ Blk wx g1 58 #[.int .i64 s0, .int .i64 s1, .int .i64 s2] ∧ Blk wx g2 58 #[.int .i64 t0, .int .i64 t1, .int .i64 t2] ∧ Below w1.heap.size w1 wx)
  case first =>
   go_region
   all_goals (go_wp2_with fail; go_meet)
   all_goals (first | exact ⟨_, _, rfl, rfl, heap2_0 w1 _ _, heap2_1 w1 _ _, App.Bl.drew (App.Bl.alloc (App.Bl.alloc (App.Bl.refl _) _) _)⟩ | exact ⟨_, _, rfl, rfl, heap2_1 w1 _ _, heap2_0 w1 _ _, App.Bl.drew (App.Bl.alloc (App.Bl.alloc (App.Bl.refl _) _) _)⟩)
  case rest =>
   obtain ⟨g1, g2, rfl, rfl, x1, x2, bx⟩ := hcut
   have BX := hid bx
   have X1 := hid x1
   have X2 := hid x2
   have hX := hid (fun (V : World) (bV : Below wc.heap.size wc V) => (show V.cell? ⟨g1, 0, none⟩ = some (.int .i64 s0) ∧ V.cell? ⟨g1, 1, none⟩ = some (.int .i64 s1) ∧ V.cell? ⟨g1, 2, none⟩ = some (.int .i64 s2) ∧ V.cell? ⟨g2, 0, none⟩ = some (.int .i64 t0) ∧ V.cell? ⟨g2, 1, none⟩ = some (.int .i64 t1) ∧ V.cell? ⟨g2, 2, none⟩ = some (.int .i64 t2) from ⟨(X1.out.below bV X1.out.lt).cells 0, (X1.out.below bV X1.out.lt).cells 1, (X1.out.below bV X1.out.lt).cells 2, (X2.out.below bV X2.out.lt).cells 0, (X2.out.below bV X2.out.lt).cells 1, (X2.out.below bV X2.out.lt).cells 2⟩))
   have T0 := hid (Below.refl wc.heap.size wc)
   obtain ⟨y0, y1, y2, u0, u1, u2⟩ := hX.out wc T0.out
   clear bx x1 x2 a0 a1 a2 a3 a4 a5 c0 c1 c2 c3 c4 c5 q0 q1 q2 r0 r1 r2 has has' hab
   generalize plainS (s0, s1, s2) = PS at *
   generalize plainS (t0, t1, t2) = PT at *
   cases PS with
   | false =>
    go_wp2_with fail
    refine (cP.out _).mono ?_
    rintro e v1 ⟨rfl, bv1⟩
    have T1 := hid (T0.out.trans (bv1.mono T0.out.size))
    clear bv1 y0 y1 y2 u0 u1 u2
    obtain ⟨y0, y1, y2, u0, u1, u2⟩ := hX.out _ T1.out
    have hr := hid (show R = false by rw [HC0.out]; simp)
    go_wp2_with fail
    go_ret2
    exact ⟨by rw [HS.out, hr.out] <;> rfl, BB.out.trans ((BX.out.trans (T1.out.mono BX.out.size)).mono BB.out.size)⟩
   | true =>
    go_wp2_with fail
    refine (cP.out _).mono ?_
    rintro e v1 ⟨rfl, bv1⟩
    have T1 := hid (T0.out.trans (bv1.mono T0.out.size))
    clear bv1 y0 y1 y2 u0 u1 u2
    obtain ⟨y0, y1, y2, u0, u1, u2⟩ := hX.out _ T1.out
    cases PT with
    | false =>
     go_wp2_with fail
     refine (cQ.out _).mono ?_
     rintro e v2 ⟨rfl, bv2⟩
     have T2 := hid (T1.out.trans (bv2.mono T1.out.size))
     clear bv2 y0 y1 y2 u0 u1 u2
     obtain ⟨y0, y1, y2, u0, u1, u2⟩ := hX.out _ T2.out
     have hr := hid (show R = false by rw [HC0.out]; simp)
     go_wp2_with fail
     go_ret2
     exact ⟨by rw [HS.out, hr.out] <;> rfl, BB.out.trans ((BX.out.trans (T2.out.mono BX.out.size)).mono BB.out.size)⟩
    | true =>
     go_wp2_with fail
     refine (cQ.out _).mono ?_
     rintro e v2 ⟨rfl, bv2⟩
     have T2 := hid (T1.out.trans (bv2.mono T1.out.size))
     clear bv2 y0 y1 y2 u0 u1 u2
     obtain ⟨y0, y1, y2, u0, u1, u2⟩ := hX.out _ T2.out
     by_cases h3 : s0 = 3
     ·have hss := H33.out h3
      subst hss
      by_cases h3' : t0 = 3
      ·subst h3
       subst h3'
       have hr := hid (show R = false by rw [HC0.out]; simp)
       go_wp2_with fail
       go_ret2
       exact ⟨by rw [HS.out, hr.out] <;> rfl, BB.out.trans ((BX.out.trans (T2.out.mono BX.out.size)).mono BB.out.size)⟩
      ·have kt : (t0 == 3) = false := by simpa using h3'
       have KT := hid kt
       subst h3
       clear h3'
       go_wp2_with fail
       refine (cH.out _).mono ?_
       rintro e v3 ⟨rfl, bv3⟩
       have T3 := hid (T2.out.trans (bv3.mono T2.out.size))
       clear bv3 y0 y1 y2 u0 u1 u2
       obtain ⟨y0, y1, y2, u0, u1, u2⟩ := hX.out _ T3.out
       cases FR with
       | false =>
        go_wp2_with fail
        refine (cF.out _).mono ?_
        rintro e v4 ⟨rfl, bv4⟩
        have T4 := hid (T3.out.trans (bv4.mono T3.out.size))
        clear bv4 y0 y1 y2 u0 u1 u2
        obtain ⟨y0, y1, y2, u0, u1, u2⟩ := hX.out _ T4.out
        have hr := hid (show R = false by rw [HC0.out]; simp)
        go_wp2_with fail
        go_ret2
        exact ⟨by rw [HS.out, hr.out] <;> rfl, BB.out.trans ((BX.out.trans (T4.out.mono BX.out.size)).mono BB.out.size)⟩
       | true =>
        go_wp2_with fail
        refine (cF.out _).mono ?_
        rintro e v4 ⟨rfl, bv4⟩
        have T4 := hid (T3.out.trans (bv4.mono T3.out.size))
        clear bv4 y0 y1 y2 u0 u1 u2
        obtain ⟨y0, y1, y2, u0, u1, u2⟩ := hX.out _ T4.out
        have hr := hid (show R = !GT by rw [HC0.out, KT.out]; simp)
        have HR4 := hid (fun (i : Nat) (s : Tr) (h : xs[i]? = some s) => HR3.out v4 (BX.out.trans (T4.out.mono BX.out.size)) i s h)
        clear y0 y1 y2 u0 u1 u2
        go_wp2_with fail
        go_loopw [11] (fun i wr => ∃ k : Nat, k ≤ m ∧ i = .int .i64 k ∧ v4 = wr ∧ ∀ (j : Nat) (u : Tr), j < k → xs[j]? = some u → (u.1 == 11 && u.2.1 == (q : Int) + 1) = false) (fun i _ => m - (intOf i).toNat)
        case atStart => exact ⟨0, Nat.zero_le _, rfl, rfl, fun j u h => absurd h (Nat.not_lt_zero _)⟩
        case round =>
         obtain ⟨k, hk, rfl, rfl, hno⟩ := hrel
         have HNO := hid hno
         clear hno
         by_cases hlt : k < m
         ·obtain ⟨⟨e0, e1, e2⟩, hu⟩ : ∃ u, xs[k]? = some u := ⟨_, List.getElem?_eq_getElem (by rw [HM.out]; exact hlt)⟩
          obtain ⟨w0, w1'⟩ := HR4.out k _ hu
          dsimp only at w0 w1'
          have HU := hid hu
          clear hu
          by_cases h11 : e0 = 11
          ·by_cases hq1 : e1 = (q : Int) + 1
           ·have hg := hid (show GT = true by rw [HGT.out, List.any_eq_true]; exact ⟨_, List.mem_of_getElem? HU.out, by rw [h11, hq1]; simp⟩)
            subst h11
            subst hq1
            go_wp2_with fail
            go_ret2
            exact ⟨by rw [HS.out, hr.out, hg.out] <;> rfl, BB.out.trans ((BX.out.trans (T4.out.mono BX.out.size)).mono BB.out.size)⟩
           ·have hn := hid (show ((e0, e1, e2).1 == 11 && (e0, e1, e2).2.1 == (q : Int) + 1) = false by simp [hq1])
            have kq : (e1 == (q : Int) + 1) = false := by simpa using hq1
            subst h11
            clear hq1
            go_wp2_with fail
            go_roundw
            case rel =>
             refine ⟨k + 1, by omega, by go_num, by first | rfl | trivial, fun j u hj hu => ?_⟩
             rcases Nat.lt_or_ge j k with h | h
             ·exact HNO.out j u h hu
             ·obtain rfl : j = k := by omega
              rw [HU.out] at hu
              cases hu
              exact hn.out
            case measure => simp [intOf]; omega
          ·have hn := hid (show ((e0, e1, e2).1 == 11 && (e0, e1, e2).2.1 == (q : Int) + 1) = false by simp [h11])
           have kq : (e0 == 11) = false := by simpa using h11
           clear h11
           go_wp2_with fail
           go_roundw
           case rel =>
            refine ⟨k + 1, by omega, by go_num, by first | rfl | trivial, fun j u hj hu => ?_⟩
            rcases Nat.lt_or_ge j k with h | h
            ·exact HNO.out j u h hu
            ·obtain rfl : j = k := by omega
             rw [HU.out] at hu
             cases hu
             exact hn.out
           case measure => simp [intOf]; omega
         ·obtain rfl : k = m := by omega
          have hg := hid (show GT = false by
           rw [HGT.out, List.any_eq_false]
           intro u hu
           obtain ⟨j, hj, rfl⟩ := List.getElem_of_mem hu
           rw [HNO.out j _ (by rw [HM.out] at hj; exact hj) (List.getElem?_eq_getElem hj)]
           decide)
          go_wp2_with fail
          go_ret2
          exact ⟨by rw [HS.out, hr.out, hg.out] <;> rfl, BB.out.trans ((BX.out.trans (T4.out.mono BX.out.size)).mono BB.out.size)⟩
     ·have ks : (s0 == 3) = false := by simpa using h3
      have KS := hid ks
      clear h3
      cases SS with
      | false =>
       go_wp2_with fail
       refine (cH.out _).mono ?_
       rintro e v3 ⟨rfl, bv3⟩
       have T3 := hid (T2.out.trans (bv3.mono T2.out.size))
       clear bv3 y0 y1 y2 u0 u1 u2
       obtain ⟨y0, y1, y2, u0, u1, u2⟩ := hX.out _ T3.out
       cases FR with
       | false =>
        go_wp2_with fail
        refine (cF.out _).mono ?_
        rintro e v4 ⟨rfl, bv4⟩
        have T4 := hid (T3.out.trans (bv4.mono T3.out.size))
        clear bv4 y0 y1 y2 u0 u1 u2
        obtain ⟨y0, y1, y2, u0, u1, u2⟩ := hX.out _ T4.out
        have hr := hid (show R = false by rw [HC0.out]; simp)
        go_wp2_with fail
        go_ret2
        exact ⟨by rw [HS.out, hr.out] <;> rfl, BB.out.trans ((BX.out.trans (T4.out.mono BX.out.size)).mono BB.out.size)⟩
       | true =>
        go_wp2_with fail
        refine (cF.out _).mono ?_
        rintro e v4 ⟨rfl, bv4⟩
        have T4 := hid (T3.out.trans (bv4.mono T3.out.size))
        clear bv4 y0 y1 y2 u0 u1 u2
        obtain ⟨y0, y1, y2, u0, u1, u2⟩ := hX.out _ T4.out
        have hr := hid (show R = !GT by rw [HC0.out, KS.out]; simp)
        have HR4 := hid (fun (i : Nat) (s : Tr) (h : xs[i]? = some s) => HR3.out v4 (BX.out.trans (T4.out.mono BX.out.size)) i s h)
        clear y0 y1 y2 u0 u1 u2
        go_wp2_with fail
        go_loopw [11] (fun i wr => ∃ k : Nat, k ≤ m ∧ i = .int .i64 k ∧ v4 = wr ∧ ∀ (j : Nat) (u : Tr), j < k → xs[j]? = some u → (u.1 == 11 && u.2.1 == (q : Int) + 1) = false) (fun i _ => m - (intOf i).toNat)
        case atStart => exact ⟨0, Nat.zero_le _, rfl, rfl, fun j u h => absurd h (Nat.not_lt_zero _)⟩
        case round =>
         obtain ⟨k, hk, rfl, rfl, hno⟩ := hrel
         have HNO := hid hno
         clear hno
         by_cases hlt : k < m
         ·obtain ⟨⟨e0, e1, e2⟩, hu⟩ : ∃ u, xs[k]? = some u := ⟨_, List.getElem?_eq_getElem (by rw [HM.out]; exact hlt)⟩
          obtain ⟨w0, w1'⟩ := HR4.out k _ hu
          dsimp only at w0 w1'
          have HU := hid hu
          clear hu
          by_cases h11 : e0 = 11
          ·by_cases hq1 : e1 = (q : Int) + 1
           ·have hg := hid (show GT = true by rw [HGT.out, List.any_eq_true]; exact ⟨_, List.mem_of_getElem? HU.out, by rw [h11, hq1]; simp⟩)
            subst h11
            subst hq1
            go_wp2_with fail
            go_ret2
            exact ⟨by rw [HS.out, hr.out, hg.out] <;> rfl, BB.out.trans ((BX.out.trans (T4.out.mono BX.out.size)).mono BB.out.size)⟩
           ·have hn := hid (show ((e0, e1, e2).1 == 11 && (e0, e1, e2).2.1 == (q : Int) + 1) = false by simp [hq1])
            have kq : (e1 == (q : Int) + 1) = false := by simpa using hq1
            subst h11
            clear hq1
            go_wp2_with fail
            go_roundw
            case rel =>
             refine ⟨k + 1, by omega, by go_num, by first | rfl | trivial, fun j u hj hu => ?_⟩
             rcases Nat.lt_or_ge j k with h | h
             ·exact HNO.out j u h hu
             ·obtain rfl : j = k := by omega
              rw [HU.out] at hu
              cases hu
              exact hn.out
            case measure => simp [intOf]; omega
          ·have hn := hid (show ((e0, e1, e2).1 == 11 && (e0, e1, e2).2.1 == (q : Int) + 1) = false by simp [h11])
           have kq : (e0 == 11) = false := by simpa using h11
           clear h11
           go_wp2_with fail
           go_roundw
           case rel =>
            refine ⟨k + 1, by omega, by go_num, by first | rfl | trivial, fun j u hj hu => ?_⟩
            rcases Nat.lt_or_ge j k with h | h
            ·exact HNO.out j u h hu
            ·obtain rfl : j = k := by omega
             rw [HU.out] at hu
             cases hu
             exact hn.out
           case measure => simp [intOf]; omega
         ·obtain rfl : k = m := by omega
          have hg := hid (show GT = false by
           rw [HGT.out, List.any_eq_false]
           intro u hu
           obtain ⟨j, hj, rfl⟩ := List.getElem_of_mem hu
           rw [HNO.out j _ (by rw [HM.out] at hj; exact hj) (List.getElem?_eq_getElem hj)]
           decide)
          go_wp2_with fail
          go_ret2
          exact ⟨by rw [HS.out, hr.out, hg.out] <;> rfl, BB.out.trans ((BX.out.trans (T4.out.mono BX.out.size)).mono BB.out.size)⟩
      | true =>
       go_wp2_with fail
       refine (cH.out _).mono ?_
       rintro e v3 ⟨rfl, bv3⟩
       have T3 := hid (T2.out.trans (bv3.mono T2.out.size))
       clear bv3 y0 y1 y2 u0 u1 u2
       obtain ⟨y0, y1, y2, u0, u1, u2⟩ := hX.out _ T3.out
       cases ST with
       | true =>
        go_wp2_with fail
        refine (cH'.out _).mono ?_
        rintro e v4 ⟨rfl, bv4⟩
        have T4 := hid (T3.out.trans (bv4.mono T3.out.size))
        clear bv4 y0 y1 y2 u0 u1 u2
        obtain ⟨y0, y1, y2, u0, u1, u2⟩ := hX.out _ T4.out
        have hr := hid (show R = false by rw [HC0.out]; simp)
        go_wp2_with fail
        go_ret2
        exact ⟨by rw [HS.out, hr.out] <;> rfl, BB.out.trans ((BX.out.trans (T4.out.mono BX.out.size)).mono BB.out.size)⟩
       | false =>
        go_wp2_with fail
        refine (cH'.out _).mono ?_
        rintro e v4 ⟨rfl, bv4⟩
        have T4 := hid (T3.out.trans (bv4.mono T3.out.size))
        clear bv4 y0 y1 y2 u0 u1 u2
        obtain ⟨y0, y1, y2, u0, u1, u2⟩ := hX.out _ T4.out
        cases FR with
        | false =>
         go_wp2_with fail
         refine (cF.out _).mono ?_
         rintro e v5 ⟨rfl, bv5⟩
         have T5 := hid (T4.out.trans (bv5.mono T4.out.size))
         clear bv5 y0 y1 y2 u0 u1 u2
         obtain ⟨y0, y1, y2, u0, u1, u2⟩ := hX.out _ T5.out
         have hr := hid (show R = false by rw [HC0.out]; simp)
         go_wp2_with fail
         go_ret2
         exact ⟨by rw [HS.out, hr.out] <;> rfl, BB.out.trans ((BX.out.trans (T5.out.mono BX.out.size)).mono BB.out.size)⟩
        | true =>
         go_wp2_with fail
         refine (cF.out _).mono ?_
         rintro e v5 ⟨rfl, bv5⟩
         have T5 := hid (T4.out.trans (bv5.mono T4.out.size))
         clear bv5 y0 y1 y2 u0 u1 u2
         obtain ⟨y0, y1, y2, u0, u1, u2⟩ := hX.out _ T5.out
         have hr := hid (show R = !GT by rw [HC0.out, KS.out]; simp)
         have HR4 := hid (fun (i : Nat) (s : Tr) (h : xs[i]? = some s) => HR3.out v5 (BX.out.trans (T5.out.mono BX.out.size)) i s h)
         clear y0 y1 y2 u0 u1 u2
         go_wp2_with fail
         go_loopw [11] (fun i wr => ∃ k : Nat, k ≤ m ∧ i = .int .i64 k ∧ v5 = wr ∧ ∀ (j : Nat) (u : Tr), j < k → xs[j]? = some u → (u.1 == 11 && u.2.1 == (q : Int) + 1) = false) (fun i _ => m - (intOf i).toNat)
         case atStart => exact ⟨0, Nat.zero_le _, rfl, rfl, fun j u h => absurd h (Nat.not_lt_zero _)⟩
         case round =>
          obtain ⟨k, hk, rfl, rfl, hno⟩ := hrel
          have HNO := hid hno
          clear hno
          by_cases hlt : k < m
          ·obtain ⟨⟨e0, e1, e2⟩, hu⟩ : ∃ u, xs[k]? = some u := ⟨_, List.getElem?_eq_getElem (by rw [HM.out]; exact hlt)⟩
           obtain ⟨w0, w1'⟩ := HR4.out k _ hu
           dsimp only at w0 w1'
           have HU := hid hu
           clear hu
           by_cases h11 : e0 = 11
           ·by_cases hq1 : e1 = (q : Int) + 1
            ·have hg := hid (show GT = true by rw [HGT.out, List.any_eq_true]; exact ⟨_, List.mem_of_getElem? HU.out, by rw [h11, hq1]; simp⟩)
             subst h11
             subst hq1
             go_wp2_with fail
             go_ret2
             exact ⟨by rw [HS.out, hr.out, hg.out] <;> rfl, BB.out.trans ((BX.out.trans (T5.out.mono BX.out.size)).mono BB.out.size)⟩
            ·have hn := hid (show ((e0, e1, e2).1 == 11 && (e0, e1, e2).2.1 == (q : Int) + 1) = false by simp [hq1])
             have kq : (e1 == (q : Int) + 1) = false := by simpa using hq1
             subst h11
             clear hq1
             go_wp2_with fail
             go_roundw
             case rel =>
              refine ⟨k + 1, by omega, by go_num, by first | rfl | trivial, fun j u hj hu => ?_⟩
              rcases Nat.lt_or_ge j k with h | h
              ·exact HNO.out j u h hu
              ·obtain rfl : j = k := by omega
               rw [HU.out] at hu
               cases hu
               exact hn.out
             case measure => simp [intOf]; omega
           ·have hn := hid (show ((e0, e1, e2).1 == 11 && (e0, e1, e2).2.1 == (q : Int) + 1) = false by simp [h11])
            have kq : (e0 == 11) = false := by simpa using h11
            clear h11
            go_wp2_with fail
            go_roundw
            case rel =>
             refine ⟨k + 1, by omega, by go_num, by first | rfl | trivial, fun j u hj hu => ?_⟩
             rcases Nat.lt_or_ge j k with h | h
             ·exact HNO.out j u h hu
             ·obtain rfl : j = k := by omega
              rw [HU.out] at hu
              cases hu
              exact hn.out
            case measure => simp [intOf]; omega
          ·obtain rfl : k = m := by omega
           have hg := hid (show GT = false by
            rw [HGT.out, List.any_eq_false]
            intro u hu
            obtain ⟨j, hj, rfl⟩ := List.getElem_of_mem hu
            rw [HNO.out j _ (by rw [HM.out] at hj; exact hj) (List.getElem?_eq_getElem hj)]
            decide)
           go_wp2_with fail
           go_ret2
           exact ⟨by rw [HS.out, hr.out, hg.out] <;> rfl, BB.out.trans ((BX.out.trans (T5.out.mono BX.out.size)).mono BB.out.size)⟩
end Go.Proofs.Ytdmcgkcpclepfaa.Cxc
-- squeezed
