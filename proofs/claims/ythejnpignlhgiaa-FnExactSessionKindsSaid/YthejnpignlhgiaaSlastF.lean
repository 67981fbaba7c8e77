import Derived.Test.YthejnpignlhgiaaM4
import Derived.Deep.DeepCutAuto
import Derived.IntWalk
set_option linter.all false
namespace Go.Proofs.Ythejnpignlhgiaa.SlastF
open Lib (hid)
open Go.ChangeShapes Go.WideShapes Go.ChangeAt Go.RowKit
open PL Mem Srun Sst Ssim
open Smk Slast0 Slast1
set_option maxRecDepth 100000 in
set_option maxHeartbeats 8000000 in
theorem last_f (lo : Nat) (tv sv dv : Value) (fuel : Int) (m : M) (c : Fr) (K : Int) (inner : PL.Call) (p : Pg) (Ap : Option Addr) (np cp : Nat) (D N : Int) (ds : List (Int × Int)) (d : Int × Int) (hm : WfM fuel K m) (hK : K ≤ 9000) (hc : WfF N c) (w : World) (he : Lef w lo tv sv tv sv dv m c w) (hlo : lo ≤ w.heap.size) (hrd : RdP w lo Ap p) (hns0 : m.spent = false) (hok : CallOkN lo Ap np cp p fuel N (D + 1) inner) (hD : c.depth = D) (hD0 : 1 ≤ D ∧ D ≤ 8) (hds : c.defers = ds ++ [d]) (hdl : c.defers.length ≤ 100000) (hsp0 : (inner m (lastFrame c d)).1.spent = false) :
  Calls Try.prog 126 #[mval (.slice Ap np cp) fuel m tv sv, fval c dv] w fun e w' => Ret w lo (.slice Ap np cp) tv sv fuel (lastRes inner m c ds d).1 (lastRes inner m c ds d).2 e w' := by
 have hd1 : 1 ≤ c.depth := by omega
 have hd2 : c.depth ≤ 8 := by omega
 obtain ⟨As, ns, cs, rfl⟩ := prs_slice he.prs
 obtain ⟨At, nt, ct, rfl⟩ := tre_slice he.tre
 have hdf := he.dfs
 unfold Prs at hdf
 obtain ⟨Ad, cd, rfl⟩ := own_slice hdf
 have hnd : c.defers.length = ds.length + 1 := by rw [hds]; simp
 rw [hnd, hds] at hdf
 obtain ⟨gd, rfl, hgd, g0, g1⟩ := pair_at hdf (k := ds.length) (d := d) (by simp) (by omega)
 have hdd : 0 ≤ d.1 ∧ d.1 < N ∧ N16 d.2 := hc.defers d (by rw [hds]; simp)
 have hcap1 : ds.length + 1 ≤ cd := own_cap hdf
 have hcap : (ds.length : Int) ≤ (cd : Int) := by omega
 have hcap2 : ds.length ≤ cd := by omega
 have HDF := hid hdf
 have hE := hid he
 clear he hdf
 obtain ⟨r, hr⟩ : ∃ r, lastRes inner m c ds d = r := ⟨_, rfl⟩
 have HR := hid hr
 rw [hr]
 have HM := hid hm
 have HC := hid hc
 have HRD := hid hrd
 have OK := hid hok
 have HNS0 := hid hns0
 have HD := hid hD
 have HDD := hid hdd
 have hnl : ds.length ≤ 100000 := by omega
 have HDS := hid hds
 clear hr hm hc hrd hok hns0 hD hdd hdl hds
 rw [hnd] at hE ⊢
 clear hnd
 obtain ⟨i0, hi, hz0, hz1, hz2⟩ := info_parts infoP2
 have hwr : IntKind.i64.wrap (((ds.length + 1 : Nat) : Int) - 1) = (ds.length : Int) := by rw [IntWalk.i64_in _ (by omega)]; omega
 have hwr2 : IntKind.i64.wrap ((ds.length : Int) + 1 - 1) = (ds.length : Int) := by rw [IntWalk.i64_in _ (by omega)]; omega
 unfold mval fval
 go_enter Try.func126, Try.ntmps126
 go_upto_region 1 with fail
 change (fun W => Code.wp _ _ _ _ W) _
 refine gen_world (X := fun V => BegL w lo (.slice Ap np cp) (.slice At nt ct) (.slice As ns cs) (.slice At nt ct) (.slice As ns cs) (.slice (some ⟨gd, 0, none⟩) (ds.length + 1) cd) fuel m c V ∧ App.Bl w V)
  ⟨⟨⟨(((hE.out.alloc _).alloc _).alloc _).alloc _, heap4_0 w _ _ _ _, heap4_1 w _ _ _ _, Nat.le_refl _, Nat.le_succ _⟩, heap4_2 w _ _ _ _, heap4_3 w _ _ _ _⟩, ((((App.Bl.refl w).alloc _).alloc _).alloc _).alloc _⟩ ?_
 intro W HX
 have X := hid HX.1
 have BW := HX.2
 have y6 : W.cell? ⟨w.heap.size + 1, 6, none⟩ = some (.slice (some ⟨gd, 0, none⟩) (ds.length + 1) cd) := X.out.st.b1.cells 6
 have w0 : W.cell? ⟨gd, ds.length * 2, none⟩ = some (.int .i64 d.1) := (Below.cell BW (p := ⟨gd, ds.length * 2, none⟩) hgd).trans g0
 have w1 : W.cell? ⟨gd, ds.length * 2 + 1, none⟩ = some (.int .i64 d.2) := (Below.cell BW (p := ⟨gd, ds.length * 2 + 1, none⟩) hgd).trans g1
 have HDF' := hid (prs_front (own_below HDF.out BW (Nat.le_refl _)) (Nat.le_succ _))
 have lt1 : w.heap.size + 1 < W.heap.size := X.out.st.b1.lt
 have hb6 : ∀ V, App.Bl W V → V.cell? ⟨w.heap.size + 1, 6, none⟩ = some (.slice (some ⟨gd, 0, none⟩) (ds.length + 1) cd) ∧ V.frozen? ⟨w.heap.size + 1, 6, none⟩ = false := fun V h => ⟨(X.out.st.b1.below h X.out.st.b1.lt).cells 6, (X.out.st.b1.below h X.out.st.b1.lt).frozen 6⟩
 have HB6 := hid hb6
 clear HX g0 g1 hb6 BW
 go_upto_region 3 with fail
 obtain ⟨W7, hW7⟩ : ∃ W7, W.alloc (.cells #[.int .i64 d.1, .int .i64 d.2] 177) = W7 := ⟨_, rfl⟩
 have B7 : App.Bl W W7 := by rw [← hW7]; exact (App.Bl.refl _).alloc _
 have P7 : Blk W7 W.heap.size 177 #[.int .i64 d.1, .int .i64 d.2] := by rw [← hW7]; exact heap1_0 _ _
 rw [hW7]
 clear hW7 w0 w1 y6
 have y6 : ∀ o, (W7.alloc o).cell? ⟨w.heap.size + 1, 6, none⟩ = some (.slice (some ⟨gd, 0, none⟩) (ds.length + 1) cd) := fun o => (HB6.out _ (App.Bl.alloc B7 o)).1
 have hk0 : (0 : Int) ≤ (ds.length : Int) := by omega
 have hk1 : (ds.length : Int) ≤ ((ds.length + 1 : Nat) : Int) := by omega
 go_wp2_with (at_builtin; refine App.row_list _ rfl (.tmp 18) (.tmp 22) 149 rfl W7.heap.size lo 177 i0 _ 2 16 Try.underlying149 hi hz0 hz1 hz2 rfl (by decide) (.slice (some ⟨W7.heap.size, 0, none⟩) 0 0) 0 [] rfl (App.empty_own (heap1_0 W7 _) (Nat.le_refl _)) (.slice (some ⟨gd, 0, none⟩) ds.length cd) ds.length (cells2 ds) rfl (own_below HDF'.out (App.Bl.alloc B7 _) (Nat.le_refl _)) App.cells2_one (by unfold maxLen; omega) (by omega) (by simp) ?_)
 intro v1 w1 o1 g1 t1
 try rw [Nat.zero_add, List.nil_append] at o1
 obtain ⟨A5, c5, rfl⟩ := own_slice o1
 have B1 : App.Bl W7 w1 := App.Bl.grown ((App.Bl.refl W7).alloc _) g1 (fun x hx => Nat.le_of_eq (by simpa [Value.ownBlock] using hx))
 have B17 : App.Bl W w1 := Below.trans B7 (Below.mono B1 (Below.size B7))
 have kc : w1.cell? ⟨w.heap.size + 1, 6, none⟩ = some (.slice (some ⟨gd, 0, none⟩) (ds.length + 1) cd) := (HB6.out _ B17).1
 have kf : w1.frozen? ⟨w.heap.size + 1, 6, none⟩ = false := (HB6.out _ B17).2
 have Q5' := hid (X.out.defers (ds := ds) B17 (World.ownsRow.mono o1 (Below.size B7)) hlo)
 have P5' := hid ((P7.below B1 P7.lt).far ⟨w.heap.size + 1, 6, none⟩ (.slice A5 ds.length c5) (by show W.heap.size ≠ w.heap.size + 1; omega))
 clear o1 g1 t1 y6 P7 B1 B7 B17 hk0 hk1
 go_upto_region 4 with fail
 obtain ⟨V, hV⟩ : ∃ V, w1.setCell ⟨w.heap.size + 1, 6, none⟩ (.slice A5 ds.length c5) = V := ⟨_, rfl⟩
 rw [hV] at Q5' P5' ⊢
 have p0 : V.cell? ⟨W.heap.size, 0, none⟩ = some (.int .i64 d.1) := P5'.out.cells 0
 have p1 : V.cell? ⟨W.heap.size, 1, none⟩ = some (.int .i64 d.2) := P5'.out.cells 1
 have q1 : V.cell? ⟨w.heap.size + 1, 1, none⟩ = some (.int .i64 c.depth) := Q5'.out.st.b1.cells 1
 have q3 : V.cell? ⟨w.heap.size + 1, 3, none⟩ = some (.int .i64 c.r1) := Q5'.out.st.b1.cells 3
 have q7 : ∀ o, (V.alloc o).cell? ⟨w.heap.size + 1, 7, none⟩ = some (.int .i64 c.kind) := fun o => (Q5'.out.st.b1.alloc o).cells 7
 have hwd : IntKind.i64.wrap (c.depth + 1) = c.depth + 1 := IntWalk.i64_in _ (by omega)
 clear hV kc kf P5' HB6 HDF' X
 go_upto_if 39 with fail
 change (fun V => Code.wp _ _ _ _ V) _
 refine gen_world (X := BegI w lo (.slice Ap np cp) (.slice At nt ct) (.slice As ns cs) (.slice At nt ct) (.slice As ns cs) (.slice A5 ds.length c5) fuel m { c with defers := ds } V.heap.size (lf0 c d) (.slice none 0 0)) ⟨Q5'.out.alloc _, heap1_0 V _, Q5'.out.b3.lt⟩ ?_
 intro V4 hV4
 have Q4 := hid hV4
 clear hV4 p0 p1 q1 q3 q7 Q5' lt1
 generalize V.heap.size = H at *
 go_cut [] (fun wx => BegI w lo (.slice Ap np cp) (.slice At nt ct) (.slice As ns cs) (.slice At nt ct) (.slice As ns cs) (.slice A5 ds.length c5) fuel m { c with defers := ds } H (lastFrame c d) (.slice none 0 0) wx)
 case first =>
  by_cases hk2 : c.kind = 2
  ·have hkb : (c.kind == 2) = true := by simp [hk2]
   have h11 : V4.cell? ⟨H, 11, none⟩ = some (.bool false) := Q4.out.i.cells 11
   have h12 : V4.cell? ⟨H, 12, none⟩ = some (.int .i64 0) := Q4.out.i.cells 12
   have y8 : V4.cell? ⟨w.heap.size + 1, 8, none⟩ = some (.int .i64 c.value) := Q4.out.b.st.b1.cells 8
   have fh := Q4.out.i.frozen
   have nh : H ≠ w.heap.size + 1 := by have := Q4.out.h; omega
   have nh' : w.heap.size + 1 ≠ H := by have := Q4.out.h; omega
   go_wp2_with fail
   go_meet
   rw [lf_panic hk2]
   exact (Q4.out.puti (i' := { lf0 c d with panicking := true }) 11 (.bool true) rfl).puti (i' := { lf0 c d with panicking := true, panic := c.value }) 12 (.int .i64 c.value) rfl
  ·have hkb : (c.kind == 2) = false := by simp [hk2]
   go_wp2_with fail
   go_meet
   rw [lf_calm hk2]
   exact Q4.out
 case rest =>
  have Q := hid hcut
  clear hcut Q4
  have hcl0 := hid (OK.out K m (lastFrame c d) (.slice At nt ct) (.slice As ns cs) wc HM.out hK (lastFrame_wf HC.out (by rw [HDS.out]; simp)) (by show c.depth + 1 = D + 1; rw [HD.out]) rfl (lef_rd Q.out.b.st.e hE.out hlo HRD.out)
   ⟨Q.out.b.st.e.tre, Q.out.b.st.e.prs, ⟨by rfl, .inl ⟨rfl, rfl⟩⟩, Chg.refl _ _, fun _ h => .inl h, fun _ h => .inl h, fun x hx => by simp [Value.ownBlock] at hx⟩ (Nat.le_trans hlo Q.out.b.st.e.chg.size) HNS0.out)
  have HRQ : Hid (r = if (inner m (lastFrame c d)).1.spent then ((inner m (lastFrame c d)).1, { c with defers := ds }) else ((inner m (lastFrame c d)).1, lastEnd { c with defers := ds } (inner m (lastFrame c d)).2)) := hid HR.out.symm
  clear HR HDS HD HDD HC HM OK
  have HSP := hid hsp0
  clear hsp0
  generalize inner m (lastFrame c d) = q at *
  obtain ⟨m', i⟩ := q
  dsimp only at hcl0 HRQ HSP
  unfold Ret mval fval at hcl0
  generalize lastFrame c d = lf at *
  generalize hc1 : ({ c with defers := ds } : Fr) = c1 at *
  clear hc1 hd1 hd2 hwd hE HRD HDF
  have z0 : ∀ o, wc.cell? ⟨w.heap.size, o, none⟩ = (#[.slice Ap np cp, .int .i64 fuel, .bool m.spent, .int .i64 m.shared, .int .i64 m.made, .int .i64 m.deep, .slice At nt ct, .slice As ns cs] : Array Value)[o]? := Q.out.b.st.b0.cells
  have z1 : ∀ o, wc.cell? ⟨H, o, none⟩ = (#[.int .i64 lf.f, .int .i64 lf.depth, .int .i64 lf.r0, .int .i64 lf.r1, .int .i64 lf.r2, .int .i64 lf.r3, .slice none 0 0, .int .i64 lf.kind, .int .i64 lf.value, .bool lf.leaving, .bool lf.deferred, .bool lf.panicking, .int .i64 lf.panic, .bool lf.recovered, .int .i64 lf.outer] : Array Value)[o]? := Q.out.i.cells
  go_upto_region 8 with fail
  go_wp2_with fail
  refine hcl0.out.mono ?_
  rintro e w' ⟨tv', sv', div, rfl, hk⟩
  obtain ⟨A2, n2, c2, rfl⟩ := tre_slice hk.tre
  obtain ⟨A3, n3, c3, rfl⟩ := prs_slice hk.prs
  obtain ⟨A4, n4', c4, rfl⟩ := prs_slice hk.dfs
  have Y0 := hid (hk.blk Q.out.b.st.e.tre Q.out.b.st.e.prs Q.out.b.st.b0 (by decide) (by decide))
  have YH := hid (hk.blk Q.out.b.st.e.tre Q.out.b.st.e.prs Q.out.i (by decide) (by decide))
  have y0 : ∀ o, w'.cell? ⟨w.heap.size, o, none⟩ = (#[.slice Ap np cp, .int .i64 fuel, .bool m.spent, .int .i64 m.shared, .int .i64 m.made, .int .i64 m.deep, .slice At nt ct, .slice As ns cs] : Array Value)[o]? := Y0.out.cells
  have yH : ∀ o, w'.cell? ⟨H, o, none⟩ = (#[.int .i64 lf.f, .int .i64 lf.depth, .int .i64 lf.r0, .int .i64 lf.r1, .int .i64 lf.r2, .int .i64 lf.r3, .slice none 0 0, .int .i64 lf.kind, .int .i64 lf.value, .bool lf.leaving, .bool lf.deferred, .bool lf.panicking, .int .i64 lf.panic, .bool lf.recovered, .int .i64 lf.outer] : Array Value)[o]? := YH.out.cells
  have f0 := Y0.out.frozen
  have fH := YH.out.frozen
  have n0 : w.heap.size ≠ H := by have := Q.out.h; omega
  have n1 : H ≠ w.heap.size := by have := Q.out.h; omega
  have HK := hid hk
  clear hk z0 z1 hcl0
  go_upto_region 9 with fail
  change (fun V => Code.wp _ _ _ _ V) _
  refine gen_world (X := BegI w lo (.slice Ap np cp) (.slice At nt ct) (.slice As ns cs) (.slice A2 n2 c2) (.slice A3 n3 c3) (.slice A5 ds.length c5) fuel m' c1 H i (.slice A4 n4' c4)) (last_world Q.out HK.out) ?_
  intro V8 hV8
  have Q8 := hid hV8
  clear hV8 y0 yH f0 fH n0 n1 Y0 YH HK Q
  have y2 : V8.cell? ⟨w.heap.size, 2, none⟩ = some (.bool m'.spent) := Q8.out.b.st.b0.cells 2
  have hsp := HSP.out
  clear HSP
  have HE := hid (show r = (m', lastEnd c1 i) by rw [HRQ.out, hsp]; rfl)
  rw [hsp] at y2
  clear HRQ hsp
  have h14 : V8.cell? ⟨H, 14, none⟩ = some (.int .i64 i.outer) := Q8.out.i.cells 14
  have y3 : V8.cell? ⟨w.heap.size + 1, 3, none⟩ = some (.int .i64 c1.r1) := Q8.out.b.st.b1.cells 3
  have f1 := Q8.out.b.st.b1.frozen
  go_upto_region 12 with fail
  change (fun V => Code.wp _ _ _ _ V) _
  refine gen_world (X := fun V => BegI w lo (.slice Ap np cp) (.slice At nt ct) (.slice As ns cs) (.slice A2 n2 c2) (.slice A3 n3 c3) (.slice A5 ds.length c5) fuel m' { c1 with r1 := i.outer } H i (.slice A4 n4' c4) V) (Q8.out.put1 (c' := { c1 with r1 := i.outer }) 3 (.int .i64 i.outer) rfl rfl) ?_
  intro V9 hV9
  have Q9 := hid hV9
  clear hV9 h14 y3 f1 y2 Q8
  go_cut [] (fun wx => BegI w lo (.slice Ap np cp) (.slice At nt ct) (.slice As ns cs) (.slice A2 n2 c2) (.slice A3 n3 c3) (.slice A5 ds.length c5) fuel m' (e1 c1 i) H i (.slice A4 n4' c4) wx)
  case first =>
   have h9 : V9.cell? ⟨H, 9, none⟩ = some (.bool i.leaving) := Q9.out.i.cells 9
   have y9 : V9.cell? ⟨w.heap.size + 1, 9, none⟩ = some (.bool c1.leaving) := Q9.out.b.st.b1.cells 9
   have f1 := Q9.out.b.st.b1.frozen
   rcases Bool.eq_false_or_eq_true c1.leaving with hlv | hlv
   ·rw [hlv] at y9
    have q := Q9.out.put1 (c' := e1 c1 i) 9 (.bool true) (by simp [fcells, e1, hlv]) rfl
    go_wp2_with fail
    go_meet
    exact q
   ·rw [hlv] at y9
    have q := Q9.out.put1 (c' := e1 c1 i) 9 (.bool i.leaving) (by simp [fcells, e1, hlv]) rfl
    go_wp2_with fail
    go_meet
    exact q
  case rest =>
   rename World => W10
   have Q10 := hid hcut
   clear hcut Q9
   have HE2 := hid (show r = (m', e4 (e3 (e2 (e1 c1 i) i) i) i) by rw [HE.out, lastEnd_eq])
   clear HE
   generalize e1 c1 i = k2 at *
   have h13 : W10.cell? ⟨H, 13, none⟩ = some (.bool i.recovered) := Q10.out.i.cells 13
   go_upto_if 66 with fail
   go_cut [] (fun wx => BegI w lo (.slice Ap np cp) (.slice At nt ct) (.slice As ns cs) (.slice A2 n2 c2) (.slice A3 n3 c3) (.slice A5 ds.length c5) fuel m' (e2 k2 i) H i (.slice A4 n4' c4) wx)
   case first =>
    rcases Bool.eq_false_or_eq_true i.recovered with hrc | hrc
    ·have y7 : W10.cell? ⟨w.heap.size + 1, 7, none⟩ = some (.int .i64 k2.kind) := Q10.out.b.st.b1.cells 7
     have y9 : W10.cell? ⟨w.heap.size + 1, 9, none⟩ = some (.bool k2.leaving) := Q10.out.b.st.b1.cells 9
     have f1 := Q10.out.b.st.b1.frozen
     have q := Q10.out.put1 (c' := { k2 with kind := 1 }) 7 (.int .i64 1) rfl rfl
     simp only [hrc]
     rcases Bool.eq_false_or_eq_true k2.leaving with hlv | hlv
     ·rw [hlv] at y9
      have q2 := q.put1 (c' := { k2 with kind := 3 }) 7 (.int .i64 3) rfl rfl
      go_wp2_with fail
      go_meet
      rw [e2_t hrc hlv]
      exact q2
     ·rw [hlv] at y9
      go_wp2_with fail
      go_meet
      rw [e2_f hrc hlv]
      exact q
    ·simp only [hrc]
     go_wp2_with fail
     go_meet
     rw [e2_no hrc]
     exact Q10.out
   case rest =>
    rename World => W11
    have Q11 := hid hcut
    clear hcut Q10 h13
    generalize e2 k2 i = k3 at *
    have h7 : W11.cell? ⟨H, 7, none⟩ = some (.int .i64 i.kind) := Q11.out.i.cells 7
    go_upto_if 73 with fail
    go_cut [] (fun wx => BegI w lo (.slice Ap np cp) (.slice At nt ct) (.slice As ns cs) (.slice A2 n2 c2) (.slice A3 n3 c3) (.slice A5 ds.length c5) fuel m' (e3 k3 i) H i (.slice A4 n4' c4) wx)
    case first =>
     by_cases hk2 : i.kind = 2
     ·have hkb : (i.kind == 2) = true := by simp [hk2]
      have y7 : W11.cell? ⟨w.heap.size + 1, 7, none⟩ = some (.int .i64 k3.kind) := Q11.out.b.st.b1.cells 7
      have y8 : W11.cell? ⟨w.heap.size + 1, 8, none⟩ = some (.int .i64 k3.value) := Q11.out.b.st.b1.cells 8
      have h8 : W11.cell? ⟨H, 8, none⟩ = some (.int .i64 i.value) := Q11.out.i.cells 8
      have f1 := Q11.out.b.st.b1.frozen
      have nh : H ≠ w.heap.size + 1 := by have := Q11.out.h; omega
      have nh' : w.heap.size + 1 ≠ H := by have := Q11.out.h; omega
      have q := (Q11.out.put1 (c' := { k3 with kind := 2 }) 7 (.int .i64 2) rfl rfl).put1 (c' := { k3 with kind := 2, value := i.value }) 8 (.int .i64 i.value) rfl rfl
      go_wp2_with fail
      go_meet
      rw [show e3 k3 i = { k3 with kind := 2, value := i.value } from if_pos hk2]
      exact q
     ·have hkb : (i.kind == 2) = false := by simp [hk2]
      go_wp2_with fail
      go_meet
      rw [show e3 k3 i = k3 from if_neg hk2]
      exact Q11.out
    case rest =>
     rename World => W12
     have Q12 := hid hcut
     clear hcut Q11 h7
     generalize e3 k3 i = k4 at *
     have h7 : W12.cell? ⟨H, 7, none⟩ = some (.int .i64 i.kind) := Q12.out.i.cells 7
     go_upto_if 80 with fail
     go_cut [] (fun wx => BegI w lo (.slice Ap np cp) (.slice At nt ct) (.slice As ns cs) (.slice A2 n2 c2) (.slice A3 n3 c3) (.slice A5 ds.length c5) fuel m' (e4 k4 i) H i (.slice A4 n4' c4) wx)
     case first =>
      by_cases hk2 : i.kind = 3
      ·have hkb : (i.kind == 3) = true := by simp [hk2]
       have y7 : W12.cell? ⟨w.heap.size + 1, 7, none⟩ = some (.int .i64 k4.kind) := Q12.out.b.st.b1.cells 7
       have f1 := Q12.out.b.st.b1.frozen
       have q := Q12.out.put1 (c' := { k4 with kind := 3 }) 7 (.int .i64 3) rfl rfl
       go_wp2_with fail
       go_meet
       rw [show e4 k4 i = { k4 with kind := 3 } from if_pos hk2]
       exact q
      ·have hkb : (i.kind == 3) = false := by simp [hk2]
       go_wp2_with fail
       go_meet
       rw [show e4 k4 i = k4 from if_neg hk2]
       exact Q12.out
     case rest =>
      rename World => W13
      have Q13 := hid hcut
      clear hcut Q12 h7
      generalize e4 k4 i = k5 at *
      go_upto_region 22 with fail
      have z0 := Q13.out.b.st.b0.cells
      have z1 := Q13.out.b.st.b1.cells
      have z3 := Q13.out.b.b2.cells
      have z4 := Q13.out.b.b3.cells
      have f3 := Q13.out.b.b2.frozen
      have f4 := Q13.out.b.b3.frozen
      unfold mcells at z0
      unfold fcells at z1
      unfold mz at z3
      unfold fz at z4
      try dsimp only at z1
      go_wp2_with fail
      go_region
      first | change (fun V => Exit.then _ _ _ _ V) _ | change (fun V => bodyPost _ _ _ _ _ V) _ | change (fun V => Code.wp _ _ _ _ V) _
      refine gen_world (X := fun V => Lef w lo (.slice At nt ct) (.slice As ns cs) (.slice A2 n2 c2) (.slice A3 n3 c3) (.slice A5 ds.length c5) m' k5 V ∧ Blk V (w.heap.size + 1 + 1) 151 (mcells (.slice Ap np cp) fuel m' (.slice A2 n2 c2) (.slice A3 n3 c3)) ∧ Blk V (w.heap.size + 1 + 1 + 1) 154 (fcells k5 (.slice A5 ds.length c5))) ?_ ?_
      ·have o := outs (vp := .slice Ap np cp) (fuel := fuel) Q13.out.b.st.e Q13.out.b.b2 Q13.out.b.b3 (by omega) (by omega) (by omega)
       exact ⟨o.1.drew, blk_drew o.2.1, blk_drew o.2.2⟩
      intro V hV
      obtain ⟨v0, v1, v2⟩ := hV
      have V0 := hid v0
      have V1 := v1.cells
      have V2 := v2.cells
      clear v0 v1 v2 z0 z1 z3 z4 f3 f4
      unfold mcells at V1
      unfold fcells at V2
      try dsimp only at V2
      go_wp2_with fail
      exact bodyPost_ret (v := .tuple #[mval (.slice Ap np cp) fuel m' (.slice A2 n2 c2) (.slice A3 n3 c3), fval k5 (.slice A5 ds.length c5)]) (by simp [results, Try.results126, go_sem, V1, V2, mval, fval]) rfl ⟨_, _, _, by rw [HE2.out], by rw [HE2.out]; exact V0.out⟩
end Go.Proofs.Ythejnpignlhgiaa.SlastF
-- squeezed
