import Derived.Test.YtdmcgkcpclepfaaIdi
import Derived.StillTailTactics
set_option linter.all false
namespace Go.Proofs.Ytdmcgkcpclepfaa.Ids
open Last2 (tk)
open Lib (hid)
open Go.ChangeShapes Go.WideShapes Go.ChangeAt Go.RowKit
open PL Mem Sst To AskP StpS Res PrgS IntsP LawI SetM Gua Gub RowA LawA Idp Idf ReaP Idi
theorem defL_len2 {p : Pg} {nf : Nat} {xs : List Tr} (hx : p[nf]? = some xs) : (defL p nf).length ≤ xs.length := by
 rw [Guc.defL_at hx]
 exact Nat.le_trans (setS_len _) (rawD_len _ _)
theorem defL_eight {p : Pg} (hp : okProg p = true) (g : Int) : (defL p g.toNat).length ≤ 8 := by
 cases h : p[g.toNat]? with
 | none => unfold defL; rw [List.getD_eq_getElem?_getD, h]; decide
 | some b => exact Nat.le_trans (defL_len2 h) ((okProg_parts hp).2.2 _ _ h).1
set_option maxRecDepth 100000 in
set_option maxHeartbeats 8000000 in
theorem idlS_any (lo n c : Nat) (A : Option Addr) (p : Pg) (f : Int) (hn : n ≤ 9223372036854775807) (hl : p.length = n) (hsm : Small p 9223372036854775807) (w : World) (ho : OwnP w lo (.slice A n c) p) :
  Calls Try.prog 40 #[.agg #[.slice A n c], .int .i64 f] w (PrsR (idleR p f) w) := by
 obtain ⟨i0, hi, hz0, hz1, hz2⟩ := info_parts infoPr
 have hP := hid (fun W (h : Below w.heap.size w W) => l2Program_any w.heap.size A n c p hn hl hsm W (ho.rd.below h) h.size)
 have hF := hid (fun W => l2Function_any A n c f hn W)
 have hs : isFn p f = (okProg p && inP f n) := by rw [← hl]; exact isFn_eq p f
 have hr : idleR p f = if isFn p f = true then (idleU p (reachL p f.toNat) (reachL p f.toNat).length, true) else ([], false) := rfl
 have hrow : isFn p f = true → _ := Guc.isFn_row
 have HRP := hid (fun (V : World) (b : Below w.heap.size w V) => (show RdP V w.heap.size A p from ho.rd.below b))
 have hl' := hid hl
 generalize hR : isFn p f = R at *
 have HR := hid hr
 have hal : ∀ V : World, Below w.heap.size w V → Below w.heap.size w (V.alloc (.cells #[.slice A n c] 31)) := fun V b => b.alloc b.size _
 clear ho hsm hr hR
 go_enter Try.func40, Try.ntmps40
 go_upto_region 2 with fail
 change (fun V => Code.wp _ _ _ _ V) _
 refine gen_world (X := fun V => Blk V w.heap.size 31 #[.slice A n c] ∧ OwnA V (w.heap.size + 1) (.slice (some ⟨w.heap.size + 1, 0, none⟩) 0 0) [] ∧ Below w.heap.size w V ∧ w.heap.size + 2 ≤ V.heap.size) ⟨heap2_0 w _ _, App.empty_own (heap2_1 w _ _) (Nat.le_refl _), ((Below.refl _ _).alloc (Nat.le_refl _) _).alloc (by simp) _, by simp⟩ ?_
 rintro w1 ⟨x1, o1, b1, l1⟩
 have z1 : w1.cell? ⟨w.heap.size, 0, none⟩ = some (.slice A n c) := x1.cells 0
 have X1 := hid x1
 have O1 := hid o1
 have B1 := hid b1
 clear x1 b1 o1
 cases h1 : okProg p with
 | false =>
  rw [h1] at hs hP
  have HS := hid (show R = false by rw [hs]; rfl)
  clear hs h1 hrow
  go_wp2_with fail
  refine (hP.out _ B1.out).mono ?_
  rintro e w2 ⟨rfl, b2⟩
  have O2 := hid (own_below (B' := w1.heap.size) O1.out b2 (Nat.le_refl _))
  have B2 := hid (B1.out.trans (b2.mono B1.out.size))
  clear b2
  go_wp2_with fail
  go_ret2
  exact ⟨_, _, by rw [HR.out, HS.out] <;> rfl, by rw [HR.out, HS.out]; exact own_mono O2.out (Nat.le_succ _), B2.out⟩
 | true =>
  rw [h1] at hs hP
  cases h2 : inP f n with
  | false =>
   rw [h2] at hs hF
   have HS := hid (show R = false by rw [hs]; rfl)
   clear hs h1 h2 hrow
   go_wp2_with fail
   refine (hP.out _ B1.out).mono ?_
   rintro e w2 ⟨rfl, b2⟩
   have X2 := hid (X1.out.below b2 (by omega))
   have z2 : w2.cell? ⟨w.heap.size, 0, none⟩ = some (.slice A n c) := X2.out.cells 0
   have O2 := hid (own_below (B' := w1.heap.size) O1.out b2 (Nat.le_refl _))
   have B2 := hid (B1.out.trans (b2.mono B1.out.size))
   clear b2 z1
   go_wp2_with fail
   refine (hF.out _).mono ?_
   rintro e w3 ⟨rfl, rfl⟩
   have B3 := hid (hal w2 B2.out)
   have O3 := hid (own_below (B' := w2.heap.size) O2.out ((Below.refl _ _).alloc (Nat.le_refl _) (.cells #[.slice A n c] 31)) (Nat.le_refl _))
   go_upto_region 3 with fail
   change (fun V => Code.wp _ _ _ _ V) _
   refine gen_world (X := fun V => Below w.heap.size w V ∧ OwnA V (w.heap.size + 1) (.slice (some ⟨w.heap.size + 1, 0, none⟩) 0 0) []) ⟨B3.out, O3.out⟩ ?_
   rintro w3 ⟨b3, o3⟩
   have B4 := hid b3
   have O4 := hid o3
   clear b3 o3 z2 B2 O2 X2
   go_wp2_with fail
   go_ret2
   exact ⟨_, _, by rw [HR.out, HS.out] <;> rfl, by rw [HR.out, HS.out]; exact own_mono O4.out (Nat.le_succ _), B4.out⟩
  | true =>
   rw [h2] at hs hF
   have hRt : R = true := by rw [hs]; rfl
   obtain ⟨nf, xs, rfl, hx, h8, hnf, hn6, hp⟩ := hrow hRt
   rw [hl'.out] at hnf hn6
   have HS := hid hRt
   have HC := hid (fun W (h : Below w.heap.size w W) => l2Reach_any n c nf A p hp hl'.out hn6 hnf W ((HRP.out W h).more h.size))
   have HD := hid (fun (g : Nat) (ys : List Tr) (h1 : p[g]? = some ys) (h8 : ys.length ≤ 8) W (h : Below w.heap.size w W) => l5Defers_any n c g A p ys (by omega) hl'.out h1 h8 W ((HRP.out W h).more h.size))
   have HE := hid (fun (g : Nat) (ys : List Tr) (h1 : p[g]? = some ys) (h8 : ys.length ≤ 8) W (h : Below w.heap.size w W) => l5Recovers_any n c g A p ys (by omega) hl'.out h1 h8 W ((HRP.out W h).more h.size))
   have HRW := hid (fun (j : Nat) (x : Int) (h : (reachL p nf)[j]? = some x) => reach_row hp (by rw [hl'.out]; exact hnf) h)
   have hm6 := reach_six hp (show p.length ≤ 6 by rw [hl'.out]; exact hn6) (show nf < p.length by rw [hl'.out]; exact hnf)
   have HDL := hid (fun (g : Nat) (ys : List Tr) (h1 : p[g]? = some ys) (h8 : ys.length ≤ 8) => (show (defL p g).length ≤ 8 from Nat.le_trans (defL_len2 h1) h8))
   have HDU := hid (fun j => dU_len (p := p) (reachL p nf) (fun g => defL_eight hp g) j)
   have HPL := hid (fun g : Int => pairs_len hp g)
   have HIL := hid (fun j => idleU_len hp (reachL p nf) j)
   have HYES := hid (fun (j : Nat) (g : Int) (h : (reachL p nf)[j]? = some g) (hd : dfrIn p (reachL p nf) g = true) => idleU_yes h hd)
   have HNO := hid (fun (j : Nat) (g : Int) (h : (reachL p nf)[j]? = some g) (hd : dfrIn p (reachL p nf) g = false) => idleU_no h hd)
   have HDN := hid (fun (j : Nat) (g : Int) (h : (reachL p nf)[j]? = some g) => dU_next (p := p) h)
   have HDE := hid (fun g : Int => dfr_eq p (reachL p nf) g)
   have HZ := hid (show idleU p (reachL p nf) 0 = [] ∧ dU p (reachL p nf) 0 = [] from ⟨rfl, rfl⟩)
   rw [Int.toNat_natCast] at HR
   clear hs h1 h2 hrow hx hRt hp h8 hl
   generalize reachL p nf = l at *
   obtain ⟨m, hm⟩ : ∃ m, l.length = m := ⟨_, rfl⟩
   have HM := hid hm
   rw [hm] at HC hm6 HR HDE
   clear hm
   go_wp2_with fail
   refine (hP.out _ B1.out).mono ?_
   rintro e w2 ⟨rfl, b2⟩
   have X2 := hid (X1.out.below b2 (by omega))
   have z2 : w2.cell? ⟨w.heap.size, 0, none⟩ = some (.slice A n c) := X2.out.cells 0
   have O2 := hid (own_below (B' := w1.heap.size) O1.out b2 (Nat.le_refl _))
   have B2 := hid (B1.out.trans (b2.mono B1.out.size))
   have l2 : w.heap.size + 2 ≤ w2.heap.size := Nat.le_trans l1 b2.size
   clear b2 z1 X1 O1 B1
   go_wp2_with fail
   refine (hF.out _).mono ?_
   rintro e w3 ⟨rfl, rfl⟩
   have B3 := hid (hal w2 B2.out)
   have X3 := hid (X2.out.alloc (.cells #[.slice A n c] 31))
   have O3 := hid (own_below (B' := w2.heap.size) O2.out ((Below.refl _ _).alloc (Nat.le_refl _) (.cells #[.slice A n c] 31)) (Nat.le_refl _))
   go_upto_region 4 with fail
   change (fun V => Code.wp _ _ _ _ V) _
   refine gen_world (X := fun V => Below w.heap.size w V ∧ Blk V w.heap.size 31 #[.slice A n c] ∧ OwnA V (w.heap.size + 1) (.slice (some ⟨w.heap.size + 1, 0, none⟩) 0 0) [] ∧ w.heap.size + 2 ≤ V.heap.size) ⟨B3.out, X3.out, O3.out, by simp; omega⟩ ?_
   rintro w3 ⟨b3, x3, o3, l3⟩
   have z3 : w3.cell? ⟨w.heap.size, 0, none⟩ = some (.slice A n c) := x3.cells 0
   have B4 := hid b3
   have X4 := hid x3
   have O4 := hid o3
   clear b3 x3 o3 z2 B2 B3 X2 X3 O2 O3 l2
   go_wp2_with fail
   refine (HC.out _ B4.out).mono ?_
   rintro e w4 ⟨Al, cl, rfl, o4, b4⟩
   have hG := hid (show GP w w3.heap.size n c m cl A Al l (some ⟨w.heap.size + 1, 0, none⟩) 0 [] w4 from ⟨own_below (B' := w3.heap.size) O4.out b4 (Nat.le_refl _), by unfold OwnI at o4; rw [HM.out] at o4; exact o4, X4.out.below b4 (by omega), B4.out.trans (b4.mono B4.out.size)⟩)
   clear o4 b4 z3 X4 O4 B4 HC l1 l3 hP hF hal
   generalize w3.heap.size = lw at *
   go_upto_region 5 with fail
   change (fun V => Code.wp _ _ _ _ V) _
   refine gen_world (X := fun V => GP w lw n c m cl A Al l (some ⟨w.heap.size + 1, 0, none⟩) 0 [] V ∧ OwnI V w.heap.size (.slice (some ⟨w4.heap.size, 0, none⟩) 0 0) []) ⟨hG.out.below ((Below.refl _ _).alloc (Nat.le_refl _) _), App.empty_own (heap1_0 w4 _) hG.out.bel.size⟩ ?_
   rintro w5 ⟨hg5, hd5⟩
   have G5 := hid hg5
   have D5 := hid hd5
   clear hg5 hd5 hG
   generalize w4.heap.size = g4 at *
   go_wp2_with fail
   go_loopw [8, 9] (fun v i wr => ∃ (j : Nat) (Ad : Option Addr) (cd : Nat), j ≤ m ∧ i = .int .i64 j ∧ v = .slice Ad (dU p l j).length cd ∧ OwnI wr w.heap.size (.slice Ad (dU p l j).length cd) (dU p l j) ∧ Below w5.heap.size w5 wr) (fun _ i _ => m - (intOf i).toNat)
   case atStart => exact ⟨0, _, _, Nat.zero_le _, rfl, by rw [HZ.out.2] <;> rfl, by rw [HZ.out.2]; exact D5.out, Below.refl _ _⟩
   case round =>
    obtain ⟨j, Ad, cd, hj, rfl, rfl, hd, hb⟩ := hrel
    have GJ := hid (G5.out.below hb)
    have DJ := hid hd
    have BJ := hid hb
    have hdu := HDU.out j
    clear hd hb D5
    by_cases hlt : j < m
    ·obtain ⟨x, hx⟩ : ∃ x, l[j]? = some x := ⟨_, List.getElem?_eq_getElem (by rw [HM.out]; exact hlt)⟩
     obtain ⟨g, ys, rfl, hys, hy8⟩ := HRW.out j x hx
     have HX := hid (HDN.out j g hx)
     obtain ⟨al, rfl, hal, -⟩ := (rdI_own GJ.out.lst) j g hx
     have hX := hid (fun (V : World) (b : Below wr.heap.size wr V) => (show V.cell? ⟨w.heap.size, 0, none⟩ = some (.slice A n c) ∧ V.cell? (al.add j) = some (.int .i64 g) from ⟨(GJ.out.below b).box.cells 0, by obtain ⟨al', e, -, h⟩ := (rdI_own (GJ.out.below b).lst) j g hx; cases e; exact h⟩))
     have hds := HDL.out g ys hys hy8
     have cF := hid (fun (W : World) (b : Below wr.heap.size wr W) => (HD.out g ys hys hy8 W (GJ.out.below b).bel).mono (fun e w' h => show ∃ Ar cr, e = Ending.returned (.slice Ar (defL p g).length cr) ∧ OwnI w' W.heap.size (.slice Ar (defL p g).length cr) (defL p g) ∧ Below wr.heap.size wr w' from let ⟨Ar, cr, h1, h2, h3⟩ := h; ⟨Ar, cr, h1, h2, b.trans (h3.mono b.size)⟩))
     rw [Int.toNat_natCast] at HX
     clear hx hys hy8 HRW HDN hdu
     generalize defL p g = ds at *
     obtain ⟨md, hmd⟩ : ∃ md, ds.length = md := ⟨_, rfl⟩
     have HMD := hid hmd
     rw [hmd] at hds
     go_upto_region 8 with fail
     obtain ⟨y0, y1⟩ := hX.out wr (Below.refl _ _)
     go_wp2_with fail
     have S0 : (fun V : World => V.cell? ⟨w.heap.size, 0, none⟩ = some (.slice A n c) ∧ V.cell? (al.add j) = some (.int .i64 g)) wr.drew := ⟨y0, y1⟩
     refine Last2.region_last [] (fun V : World => V.cell? ⟨w.heap.size, 0, none⟩ = some (.slice A n c) ∧ V.cell? (al.add j) = some (.int .i64 g)) (by kernel_rfl) ?_
     refine tk 0 36 (.agg #[.slice A n c]) S0 ?_
     simp only [Act.put, Last2.s]
     refine tk 1 37 (.slice (some al) m cl) S0 ?_
     simp only [Act.put, Last2.s]
     refine tk 2 38 (.int .i64 j) S0 ?_
     simp only [Act.put, Last2.s]
     refine tk 3 39 (.pointer (some (al.add j))) S0 ?_
     simp only [Act.put, Last2.s]
     refine tk 4 40 (.int .i64 g) S0 ?_
     simp only [Act.put, Last2.s]
     refine Last2.last_one (i := 5) (o := { dst := some 41, op := .call { callee := .value (.func 90), args := #[.tmp 36, .tmp 40], argTypes := #[31, 3] }, type := _, pos := _, after := _, guard := _ }) (by kernel_rfl) rfl rfl (fun K hK => ?_)
     go_simp
     refine (cF.out wr.drew (Below.refl _ _).drew).mono ?_
     rintro e w6 ⟨Ar, cr, rfl, o6, b6⟩
     refine hK.out _ _ (fun _ => hX.out w6 b6) ?_
     clear hK K
     try simp only [Act.put, Last2.s]
     have S1 := hX.out w6 b6
     refine Last2.last_take (i := 6) (d := some 10) (v := .slice Ar ds.length cr) rfl rfl (by kernel_rfl) (by kernel_rfl) (by kernel_rfl) (fun _ _ _ h => h) rfl (by kernel_rfl) (by kernel_rfl) rfl ?_ S1 ?_
     ·(intro V hV; (try dsimp only at hV); go_simp; try with_reducible rfl)
     simp only [Act.put, Last2.s]
     refine Last2.last_done (by kernel_rfl) ?_ _
     rw [hmd] at o6 ⊢
     have O6 := hid o6
     have D6 := hid (own_below (B' := wr.heap.size) DJ.out b6 (Nat.le_refl _))
     have B6 := hid b6
     have BJ6 := hid (BJ.out.trans (b6.mono BJ.out.size))
     have hw6 : w.heap.size ≤ w6.heap.size := (GJ.out.below b6).bel.size
     have hdl : (dU p l j).length ≤ 8 * j := HDU.out j
     clear S0 S1 y0 y1 hX cF o6 b6 hmd DJ BJ HDU
     generalize hdj : dU p l j = dj at *
     have HDJ := hid hdj
     clear hdj
     go_wp2_with fail
     go_loopw [8, 11] (fun v i wq => ∃ (k : Nat) (A2 : Option Addr) (c2 : Nat), k ≤ md ∧ i = .int .i64 k ∧ v = .slice A2 ((ds.take k).foldl putS dj).length c2 ∧ OwnI wq w.heap.size (.slice A2 ((ds.take k).foldl putS dj).length c2) ((ds.take k).foldl putS dj) ∧ Below w6.heap.size w6 wq) (fun _ i _ => md - (intOf i).toNat)
     case atStart => exact ⟨0, Ad, cd, Nat.zero_le _, rfl, rfl, D6.out, Below.refl _ _⟩
     case round =>
      obtain ⟨k, A2, c2, hk, rfl, rfl, hq, hb⟩ := hrel
      have hfl := fold_len (ds.take k) dj
      have hfk : (ds.take k).length ≤ k := by rw [List.length_take]; omega
      have BK := hid hb
      have DK := hid hq
      have hwk := hb.size
      clear hq
      by_cases hkm : k < md
      ·obtain ⟨y, hy⟩ : ∃ y, ds[k]? = some y := ⟨_, List.getElem?_eq_getElem (by rw [HMD.out]; exact hkm)⟩
       obtain ⟨ar, rfl, -, hay⟩ := ((OwnI.rd O6.out HMD.out).below hb) k y hy
       have HF := hid (show (ds.take (k + 1)).foldl putS dj = putS ((ds.take k).foldl putS dj) y from by rw [List.take_add_one, hy]; simp)
       generalize (ds.take k).foldl putS dj = fk at *
       have hc2 : fk.length ≤ c2 := SetM.cap_own DK.out
       have HPP := hid (l1Put_any w.heap.size fk.length c2 A2 fk y (by omega) rfl hc2 wr DK.out (by omega))
       clear hy hb
       go_wp2_with fail
       refine HPP.out.mono ?_
       rintro e w7 ⟨A3, c3, rfl, o7, b7⟩
       have O7 := hid o7
       have B7 := hid (BK.out.trans (b7.mono BK.out.size))
       clear o7 b7 HPP hay
       go_wp2_with fail
       go_roundw
       case rel => exact ⟨k + 1, A3, c3, by omega, by go_num, by rw [HF.out], by rw [HF.out]; exact O7.out, B7.out⟩
       case measure => simp [intOf]; omega
      ·obtain rfl : k = md := by omega
       have HF := hid (show (ds.take k).foldl putS dj = dU p l (j + 1) from by rw [List.take_of_length_le (by rw [HMD.out]; exact Nat.le_refl _), HX.out])
       rw [HF.out] at DK ⊢
       clear hb hfl hfk
       go_wp2_with fail
       go_roundw
       case rel => exact ⟨j + 1, A2, c2, by omega, by go_num, rfl, DK.out, BJ6.out.trans (BK.out.mono BJ6.out.size)⟩
       case measure => simp [intOf]; omega
    ·obtain rfl : j = m := by omega
     have hdl : (dU p l j).length ≤ 8 * j := HDU.out j
     generalize dU p l j = du at *
     clear G5 BJ HDU HDL HDN HD hdu hlt hj
     go_wp2_with fail
     go_loopw [6, 12] (fun v i wq => ∃ (k : Nat) (A2 : Option Addr) (c2 : Nat), k ≤ j ∧ i = .int .i64 k ∧ v = .slice A2 (idleU p l k).length c2 ∧ GP w lw n c j cl A Al l A2 c2 (idleU p l k) wq ∧ OwnI wq w.heap.size (.slice Ad du.length cd) du) (fun _ i _ => j - (intOf i).toNat)
     case atStart => exact ⟨0, _, _, Nat.zero_le _, rfl, by rw [HZ.out.1] <;> rfl, by rw [HZ.out.1]; exact GJ.out, DJ.out⟩
     case round =>
      obtain ⟨k, A2, c2, hk, rfl, rfl, hg, hdv⟩ := hrel
      have G := hid hg
      have DV := hid hdv
      have hik : (idleU p l k).length ≤ 8 * k := HIL.out k
      clear hg hdv GJ DJ
      by_cases hlt : k < j
      ·obtain ⟨x, hx⟩ : ∃ x, l[k]? = some x := ⟨_, List.getElem?_eq_getElem (by rw [HM.out]; exact hlt)⟩
       obtain ⟨g, ys, rfl, hys, hy8⟩ := HRW.out k x hx
       have HY := hid (fun h => HYES.out k g hx h)
       have HN := hid (fun h => HNO.out k g hx h)
       have hpl := HPL.out (g : Int)
       have hpo : pairsOf p g = (recL ys).map (fun a => ((g : Int), a)) := by unfold pairsOf; rw [Int.toNat_natCast, List.getD_eq_getElem?_getD, hys]; rfl
       rw [hpo] at HN hpl
       rw [List.length_map] at hpl
       have hde := HDE.out (g : Int)
       obtain ⟨al, rfl, hal, -⟩ := (rdI_own G.out.lst) k g hx
       have hX := hid (fun (V : World) (b : Below wr.heap.size wr V) => (show V.cell? ⟨w.heap.size, 0, none⟩ = some (.slice A n c) ∧ V.cell? (al.add k) = some (.int .i64 g) from ⟨(G.out.below b).box.cells 0, by obtain ⟨al', e, -, h⟩ := (rdI_own (G.out.below b).lst) k g hx; cases e; exact h⟩))
       have HLX := hid (fun (V : World) (h : V.ownsRow lw 3 1 (.slice (some al) j cl) j (cellsI l)) => (show V.cell? (al.add k) = some (.int .i64 g) from by obtain ⟨al', e, -, h'⟩ := (rdI_own h) k g hx; cases e; exact h'))
       have cF := hid (fun (W : World) (b : Below wr.heap.size wr W) => (HE.out g ys hys hy8 W (G.out.below b).bel).mono (fun e w' h => show ∃ Ar cr, e = Ending.returned (.slice Ar (recL ys).length cr) ∧ OwnI w' W.heap.size (.slice Ar (recL ys).length cr) (recL ys) ∧ Below wr.heap.size wr w' from let ⟨Ar, cr, h1, h2, h3⟩ := h; ⟨Ar, cr, h1, h2, b.trans (h3.mono b.size)⟩))
       clear hx hys hy8 hpo
       generalize recL ys = rl at *
       obtain ⟨mr, hmr⟩ : ∃ mr, rl.length = mr := ⟨_, rfl⟩
       have HMR := hid hmr
       rw [hmr] at hpl
       go_upto_region 16 with fail
       obtain ⟨y0, y1⟩ := hX.out wr (Below.refl _ _)
       go_wp2_with fail
       have S0 : (fun V : World => V.cell? ⟨w.heap.size, 0, none⟩ = some (.slice A n c) ∧ V.cell? (al.add k) = some (.int .i64 g)) wr.drew := ⟨y0, y1⟩
       refine Last2.region_last [] (fun V : World => V.cell? ⟨w.heap.size, 0, none⟩ = some (.slice A n c) ∧ V.cell? (al.add k) = some (.int .i64 g)) (by kernel_rfl) ?_
       refine tk 0 60 (.agg #[.slice A n c]) S0 ?_
       simp only [Act.put, Last2.s]
       refine tk 1 61 (.slice (some al) j cl) S0 ?_
       simp only [Act.put, Last2.s]
       refine tk 2 62 (.int .i64 k) S0 ?_
       simp only [Act.put, Last2.s]
       refine tk 3 63 (.pointer (some (al.add k))) S0 ?_
       simp only [Act.put, Last2.s]
       refine tk 4 64 (.int .i64 g) S0 ?_
       simp only [Act.put, Last2.s]
       refine Last2.last_one (i := 5) (o := { dst := some 65, op := .call { callee := .value (.func 92), args := #[.tmp 60, .tmp 64], argTypes := #[31, 3] }, type := _, pos := _, after := _, guard := _ }) (by kernel_rfl) rfl rfl (fun K hK => ?_)
       go_simp
       refine (cF.out wr.drew (Below.refl _ _).drew).mono ?_
       rintro e w6 ⟨Ar, cr, rfl, o6, b6⟩
       refine hK.out _ _ (fun _ => hX.out w6 b6) ?_
       clear hK K
       try simp only [Act.put, Last2.s]
       have S1 := hX.out w6 b6
       refine Last2.last_take (i := 6) (d := some 13) (v := .slice Ar rl.length cr) rfl rfl (by kernel_rfl) (by kernel_rfl) (by kernel_rfl) (fun _ _ _ h => h) rfl (by kernel_rfl) (by kernel_rfl) rfl ?_ S1 ?_
       ·(intro V hV; (try dsimp only at hV); go_simp; try with_reducible rfl)
       simp only [Act.put, Last2.s]
       refine Last2.last_done (by kernel_rfl) ?_ _
       rw [hmr] at o6 ⊢
       have O6 := hid (show w6.ownsRow wr.heap.size 3 1 (.slice Ar mr cr) mr (cellsI rl) from by unfold OwnI at o6; rw [hmr] at o6; exact o6)
       have G6 := hid (G.out.below b6)
       have D6 := hid (show w6.ownsRow w.heap.size 3 1 (.slice Ad du.length cd) du.length (cellsI du) from own_below (B' := wr.heap.size) DV.out b6 (Nat.le_refl _))
       clear S0 S1 y0 y1 hX cF o6 b6 hmr G DV
       generalize wr.heap.size = lr at *
       cases hd : dfrIn p l g with
       | true =>
        have HX := hid (HY.out hd)
        rw [hd] at hde
        have HH := hid (ReaP.has_any w6.heap.size Ad du.length cd du (g : Int) (by omega) rfl w6 (rdI_own D6.out))
        rw [hde] at HH
        have z4 := HLX.out w6 G6.out.lst
        clear hd HY HN hde
        generalize idleU p l k = q at *
        go_wp2_with fail
        go_loopw [6, 14] (fun v i wq => v = .slice A2 q.length c2 ∧ i = .int .i64 0 ∧ w6 = wq) (fun _ i _ => 0)
        case atStart => exact ⟨rfl, rfl, rfl⟩
        case round =>
         obtain ⟨rfl, rfl, rfl⟩ := hrel
         by_cases h0 : 0 < mr
         ·go_wp2_with fail
          refine HH.out.mono ?_
          rintro e w7 ⟨rfl, rfl⟩
          go_wp2_with fail
          go_roundw
          case rel => exact ⟨k + 1, A2, c2, by omega, by go_num, by rw [HX.out], by rw [HX.out]; exact G6.out, D6.out⟩
          case measure => simp [intOf]; omega
         ·have h00 : mr = 0 := by omega
          subst h00
          go_wp2_with fail
          go_roundw
          case rel => exact ⟨k + 1, A2, c2, by omega, by go_num, by rw [HX.out], by rw [HX.out]; exact G6.out, D6.out⟩
          case measure => simp [intOf]; omega
       | false =>
        have HX := hid (HN.out hd)
        rw [hd] at hde
        have HDF := hid hde
        clear hd HY HN hde
        have HT := hid (fun (k : Nat) (a : Int) (h : rl[k]? = some a) => (show ((rl.map (fun a => ((g : Int), a))).take (k + 1)) = (rl.map (fun a => ((g : Int), a))).take k ++ [((g : Int), a)] from by rw [List.take_add_one, List.getElem?_map, h]; rfl))
        have HTA := hid (show (rl.map (fun a => ((g : Int), a))).take mr = rl.map (fun a => ((g : Int), a)) from List.take_of_length_le (by rw [List.length_map, HMR.out]; exact Nat.le_refl _))
        have HTL := hid (fun k => (show ((rl.map (fun a => ((g : Int), a))).take k).length ≤ k from by rw [List.length_take]; omega))
        have HT0 := hid (show (rl.map (fun a => ((g : Int), a))).take 0 = [] from rfl)
        generalize rl.map (fun a => ((g : Int), a)) = pr at *
        generalize idleU p l k = q at *
        go_wp2_with fail
        go_loopw [6, 14] (fun v i wq => ∃ (kk : Nat) (A3 : Option Addr) (c3 : Nat), kk ≤ mr ∧ i = .int .i64 kk ∧ v = .slice A3 (q ++ pr.take kk).length c3 ∧ GP w lw n c j cl A (some al) l A3 c3 (q ++ pr.take kk) wq ∧ wq.ownsRow lr 3 1 (.slice Ar mr cr) mr (cellsI rl) ∧ wq.ownsRow w.heap.size 3 1 (.slice Ad du.length cd) du.length (cellsI du)) (fun _ i _ => mr - (intOf i).toNat)
        case atStart => exact ⟨0, A2, c2, Nat.zero_le _, rfl, by rw [HT0.out, List.append_nil], by rw [HT0.out, List.append_nil]; exact G6.out, O6.out, D6.out⟩
        case round =>
         obtain ⟨kk, A3, c3, hkk, rfl, rfl, hgp, hop, hdp⟩ := hrel
         have htl := HTL.out kk
         have hqk : (q ++ pr.take kk).length ≤ 8 * k + kk := by rw [List.length_append]; omega
         by_cases hkm : kk < mr
         ·obtain ⟨a, ha⟩ : ∃ a, rl[kk]? = some a := ⟨_, List.getElem?_eq_getElem (by rw [HMR.out]; exact hkm)⟩
          have HTK := hid (HT.out kk a ha)
          have bD : Below wr.heap.size wr wr.drew := (Below.refl _ _).drew
          have GK := hid (hgp.below bD)
          have OK := hid (own_below (B' := wr.heap.size) hop bD (Nat.le_refl _))
          have DK := hid (own_below (B' := wr.heap.size) hdp bD (Nat.le_refl _))
          have HH := hid (ReaP.has_any wr.heap.size Ad du.length cd du (g : Int) (by omega) rfl wr (rdI_own hdp))
          rw [HDF.out] at HH
          have z4 := HLX.out wr hgp.lst
          have z5 := HLX.out wr.drew GK.out.lst
          obtain ⟨ap, rfl, -, hap⟩ := (rdI_own OK.out) kk a ha
          have hs1 : w.heap.size < wr.drew.heap.size := GK.out.box.lt
          clear hgp hop hdp ha bD
          generalize hqq : q ++ pr.take kk = qk at *
          have HQ := hid hqq
          clear hqq
          go_wp2_with fail
          refine HH.out.mono ?_
          rintro e w7 ⟨rfl, rfl⟩
          clear z4
          go_wp2_with fail
          have S0 : (fun V : World => V.cell? (al.add k) = some (.int .i64 g) ∧ V.cell? (ap.add kk) = some (.int .i64 a)) wr.drew := ⟨z5, hap⟩
          refine Last2.region_last [11, 12] (fun V : World => V.cell? (al.add k) = some (.int .i64 g) ∧ V.cell? (ap.add kk) = some (.int .i64 a)) (by kernel_rfl) ?_
          refine tk 0 81 (.slice A3 qk.length c3) S0 ?_
          simp only [Act.put, Last2.s]
          refine tk 1 82 (.slice (some al) j cl) S0 ?_
          simp only [Act.put, Last2.s]
          refine tk 2 83 (.int .i64 k) S0 ?_
          simp only [Act.put, Last2.s]
          refine tk 3 84 (.pointer (some (al.add k))) S0 ?_
          simp only [Act.put, Last2.s]
          refine tk 4 85 (.int .i64 g) S0 ?_
          simp only [Act.put, Last2.s]
          refine tk 5 86 (.slice (some ap) mr cr) S0 ?_
          simp only [Act.put, Last2.s]
          refine tk 6 87 (.int .i64 kk) S0 ?_
          simp only [Act.put, Last2.s]
          refine tk 7 88 (.pointer (some (ap.add kk))) S0 ?_
          simp only [Act.put, Last2.s]
          refine tk 8 89 (.int .i64 a) S0 ?_
          simp only [Act.put, Last2.s]
          refine tk 9 90 (.agg #[.int .i64 g, .int .i64 a]) S0 ?_
          simp only [Act.put, Last2.s]
          generalize wr.drew = w8 at *
          have SB : (fun V : World => V.cell? (al.add k) = some (.int .i64 g) ∧ V.cell? (ap.add kk) = some (.int .i64 a)) (w8.alloc (.cells #[.int .i64 g, .int .i64 a] 85)) := ⟨((Below.refl w8.heap.size w8).alloc (Nat.le_refl _) _).cell (World.block_lt_of_cell? w8 _ z5) |>.trans z5, ((Below.refl w8.heap.size w8).alloc (Nat.le_refl _) _).cell (World.block_lt_of_cell? w8 _ hap) |>.trans hap⟩
          refine Last2.last_one (i := 10) (o := { dst := some 91, op := .buildSlice 49 1 #[(0, .tmp 90)], type := _, pos := _, after := _, guard := _ }) (by kernel_rfl) rfl rfl (fun K hK => ?_)
          go_simp
          refine hK.out _ _ (fun _ => SB) ?_
          clear hK K
          try simp only [Act.put, Last2.s]
          have OW := hid (show (w8.alloc (.cells #[.int .i64 g, .int .i64 a] 85)).ownsRow (w.heap.size + 1) 85 2 (.slice A3 qk.length c3) qk.length (Srun.cells2 qk) from World.ownsRow.alloc GK.out.own _)
          have PR := hid (App.pair_own (heap1_0 w8 (.cells #[.int .i64 g, .int .i64 a] 85)))
          refine Last2.last_one (i := 11) (o := { dst := some 92, op := .call { callee := .builtin .append, args := #[.tmp 81, .tmp 91], argTypes := #[49, 49] }, type := _, pos := _, after := _, guard := _ }) (by kernel_rfl) rfl rfl (fun K hK => ?_)
          refine App.row_wp _ (.tmp 81) (.tmp 91) 49 rfl (w.heap.size + 1) 0 85 i0 _ 2 16 Try.underlying49 hi hz0 hz1 hz2 rfl (by decide) _ _ _ rfl OW.out _ 1 [.int .i64 g, .int .i64 a] rfl PR.out (by intro u hu; simp at hu; rcases hu with rfl | rfl <;> rfl) (by unfold maxLen; omega) (by omega) (by simp; omega) ?_
          intro v1 w9 o9 g9 t9
          refine hK.out _ _ (fun h => (h (by decide)).elim) ?_
          clear hK K
          obtain ⟨A9, c9, rfl⟩ := own_slice o9
          try simp only [Act.put, Last2.s]
          refine Last2.last_one (i := 12) (o := { dst := some 6, op := .assign (.tmp 92), type := _, pos := _, after := _, guard := _ }) (by kernel_rfl) rfl rfl (fun K hK => ?_)
          go_simp
          refine hK.out _ _ (fun h => (h (by decide)).elim) ?_
          clear hK K
          try simp only [Act.put, Last2.s]
          refine Last2.last_done (by kernel_rfl) ?_ _
          have c2' : Chg (fun y => (Value.slice A3 qk.length c3).ownBlock = some y) w8 w9 := (Chg.alloc _ w8 _).trans (Chg.of_grown g9) (fun x _ hx => hx.symm)
          have G2 := hid (GK.out.push (q' := qk ++ [((g : Int), a)]) (A2 := A9) (c2 := c9) c2' (by unfold OwnA; rw [List.length_append, List.length_singleton, Srun.cells2_append]; exact o9))
          have O2 := hid (own_chg OK.out c2' (fun x hx hc => App.own_ne OK.out GK.out.own (by decide) hx hc))
          have D2 := hid (own_chg DK.out c2' (fun x hx hc => App.own_ne DK.out GK.out.own (by decide) hx hc))
          clear o9 g9 t9 c2' S0 SB OW PR z5 hap
          go_wp2_with fail
          go_roundw
          case rel => exact ⟨kk + 1, A9, c9, by omega, by go_num, by rw [HTK.out, ← List.append_assoc, HQ.out, List.length_append, List.length_singleton], by rw [HTK.out, ← List.append_assoc, HQ.out]; exact G2.out, O2.out, D2.out⟩
          case measure => simp [intOf]; omega
         ·obtain rfl : kk = mr := by omega
          rw [HTA.out, ← HX.out] at hgp ⊢
          have GE := hid hgp
          have DE := hid hdp
          clear hgp hop hdp
          go_wp2_with fail
          go_roundw
          case rel => exact ⟨k + 1, A3, c3, by omega, by go_num, rfl, GE.out, DE.out⟩
          case measure => simp [intOf]; omega
      ·obtain rfl : k = j := by omega
       go_wp2_with fail
       go_ret2
       exact ⟨A2, c2, by rw [HR.out, HS.out, if_pos rfl] <;> rfl, by rw [HR.out, HS.out, if_pos rfl]; exact own_mono G.out.own (Nat.le_succ _), G.out.bel⟩
end Go.Proofs.Ytdmcgkcpclepfaa.Ids
-- squeezed
