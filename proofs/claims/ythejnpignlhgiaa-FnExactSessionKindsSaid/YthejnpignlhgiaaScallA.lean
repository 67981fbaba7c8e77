import Derived.Test.YthejnpignlhgiaaM5
import Derived.Test.YthejnpignlhgiaaM3
import Derived.Test.YthejnpignlhgiaaM8
import Derived.Deep.DeepCutAuto
import Derived.Deep.LoopGhost
import Derived.Deep.CutBlock
import Derived.IntWalk
set_option linter.all false
namespace Go.Proofs.Ythejnpignlhgiaa.ScallA
open Lib (hid)
open Go.ChangeShapes Go.WideShapes Go.ChangeAt Go.RowKit
open PL Mem Srun Sst Ssim
open Smk Slast0 Slast1 Scall0 Scall1
theorem lef_below {w W : World} {lo : Nat} {tv0 sv0 tv sv dv : Value} {m m0 : M} {c c0 : Fr} {dv0 tvx svx : Value} (h : Lef w lo tv0 sv0 tv sv dv m c W) (h0 : Lef w lo tvx svx tv0 sv0 dv0 m0 c0 w) (hlo : lo ≤ w.heap.size) : Below lo w W :=
 h.chg.below hlo (fun x hx hc => by
  rcases hc with hc | hc
  ·have := (h0.tre.lt x hc).1; omega
  ·have := (h0.prs.lt x hc).1; omega)
set_option maxRecDepth 100000 in
set_option maxHeartbeats 8000000 in
theorem call_a (lo : Nat) (Ap : Option Addr) (np cp : Nat) (p : Pg) (fuel : Int) (hp : okProg p = true) (hn : p.length = np) (D : Int) (hD0 : 1 ≤ D ∧ D ≤ 8) (inner : PL.Call) (hg : PL.Good np fuel (D + 1) inner) (hok : CallOkN lo Ap np cp p fuel np (D + 1) inner)
  (K : Int) (m : M) (c : Fr) (tv sv : Value) (w : World) (hm : WfM fuel K m) (hK : K ≤ 9000) (hc : WfF np c) (hD : c.depth = D) (hds : c.defers = []) (hrd : RdP w lo Ap p) (he : Lef w lo tv sv tv sv (.slice none 0 0) m c w) (hlo : lo ≤ w.heap.size) (hsp0 : m.spent = false)
  (hcase : (body inner (p.getD c.f.toNat []) fuel (fuel.toNat + 1) (begin_ m c) { c with kind := 1 } 0).1.spent = true) :
  Calls Try.prog 111 #[mval (.slice Ap np cp) fuel m tv sv, fval c (.slice none 0 0)] w fun e w' => Ret w lo (.slice Ap np cp) tv sv fuel (afterB inner (body inner (p.getD c.f.toNat []) fuel (fuel.toNat + 1) (begin_ m c) { c with kind := 1 } 0)).1 (afterB inner (body inner (p.getD c.f.toNat []) fuel (fuel.toNat + 1) (begin_ m c) { c with kind := 1 } 0)).2 e w' := by
 subst hD
 obtain ⟨As, ns, cs, rfl⟩ := prs_slice he.prs
 obtain ⟨At, nt, ct, rfl⟩ := tre_slice he.tre
 have hd1 : 1 ≤ c.depth := by omega
 have hd2 : c.depth ≤ 8 := by omega
 have hlen : m.trace.length ≤ 100000 := by have := hm.pot; have := hm.made1; omega
 have hf0 : 0 ≤ c.f := hc.f0
 have hf1 : c.f < np := hc.f1
 obtain ⟨j, hj⟩ := Int.eq_ofNat_of_zero_le hf0
 have hjn : j < p.length := by omega
 obtain ⟨xs, hx⟩ : ∃ xs, p[j]? = some xs := ⟨_, List.getElem?_eq_getElem hjn⟩
 have hxb := okProg_body hp hx
 have HXX := hid hx
 have hj0 : (0 : Int) ≤ (j : Int) := by omega
 have hj1 : (j : Int) < (np : Int) := by omega
 have hj2 : j < np := by omega
 have hget : p.getD c.f.toNat [] = xs := by rw [hj, Int.toNat_natCast, List.getD_eq_getElem?_getD, hx]; rfl
 obtain ⟨ad, Ai, ci, rfl, hadb, hcell, hrow⟩ := hrd j xs hx
 have inv0 : Inv np fuel (K + 1) (begin_ m c) { c with kind := 1 } := begin_wf ⟨by rw [hds]; simpa using hm, hc⟩ (by omega) hd2
 obtain ⟨R, hR⟩ : ∃ R, body inner xs fuel (fuel.toNat + 1) (begin_ m c) { c with kind := 1 } 0 = R := ⟨_, rfl⟩
 obtain ⟨r, hr⟩ : ∃ r, afterB inner R = r := ⟨_, rfl⟩
 rw [hget, hR, hr]
 rw [hget, hR] at hcase
 have HCASE := hid hcase
 have HSP0 := hid (show (begin_ m c).spent = false from hsp0)
 clear hcase hsp0
 have HR := hid hR
 have Hr := hid hr
 have INV := hid inv0
 have hE := hid he
 have HDS := hid hds
 have HM := hid hm
 have HC := hid hc
 have HRD := hid hrd
 have OK := hid hok
 have HG := hid hg
 have HX := hid hxb
 have HJ := hid hj
 have HROW := hid hrow
 clear hR hr inv0 he hds hm hc hrd hok hg hxb hget hx hp hrow hj
 unfold mval fval
 go_enter Try.func111, Try.ntmps111
 go_upto_region 1 with fail
 change (fun W => Code.wp _ _ _ _ W) _
 refine gen_world (X := fun V => BegL w lo (.slice (some ad) np cp) (.slice At nt ct) (.slice As ns cs) (.slice At nt ct) (.slice As ns cs) (.slice none 0 0) fuel (m) (c) V ∧ App.Bl w V)
  ⟨⟨⟨(((hE.out.alloc _).alloc _).alloc _).alloc _, heap4_0 w _ _ _ _, heap4_1 w _ _ _ _, Nat.le_refl _, Nat.le_succ _⟩, heap4_2 w _ _ _ _, heap4_3 w _ _ _ _⟩, ((((App.Bl.refl w).alloc _).alloc _).alloc _).alloc _⟩ ?_
 intro W HW
 have X := hid HW.1
 have y1 : W.cell? ⟨w.heap.size + 1, 1, none⟩ = some (.int .i64 c.depth) := X.out.st.b1.cells 1
 have y5 : W.cell? ⟨w.heap.size, 5, none⟩ = some (.int .i64 m.deep) := X.out.st.b0.cells 5
 have f0 := X.out.st.b0.frozen
 clear HW
 go_wp2_with fail
 refine (most_any m.deep c.depth _).mono ?_
 rintro e w9 ⟨rfl, rfl⟩
 have Q2 := hid (BegL.put0 X.out (m' := { m with deep := if m.deep > c.depth then m.deep else c.depth }) 5 (.int .i64 (mx m.deep c.depth)) rfl rfl rfl)
 obtain ⟨bb, hbb⟩ : ∃ bb, c.deferred = bb := ⟨_, rfl⟩
 have y7 : ∀ u, (W.setCell ⟨w.heap.size, 5, none⟩ u).cell? ⟨w.heap.size + 1, 10, none⟩ = some (.bool bb) := fun u => ((Blk.far X.out.st.b1 _ _ (by show w.heap.size + 1 ≠ w.heap.size; omega)).cells 10).trans (congrArg (fun x => some (Value.bool x)) hbb)
 have HBB := hid hbb
 clear hbb
 go_upto_if 22 with fail
 generalize W.setCell ⟨w.heap.size, 5, none⟩ (.int .i64 (mx m.deep c.depth)) = W2 at *
 clear y1 y5 f0 y7 X
 obtain ⟨kd, hkd⟩ : ∃ kd : Int, (if bb then 3 else 1) = kd := ⟨_, rfl⟩
 have HKD := hid hkd
 clear hkd
 go_cut [6] (fun s6 wx => s6 = .int .i64 kd ∧ wx = W2)
 case first =>
  clear Q2 HBB
  cases bb with
  | true =>
   go_wp2_with fail
   go_meet
   exact ⟨by rw [← HKD.out]; rfl, rfl⟩
  | false =>
   go_wp2_with fail
   go_meet
   exact ⟨by rw [← HKD.out]; rfl, rfl⟩
 case rest =>
  obtain ⟨rfl, hwc⟩ := hcut
  have Q3 := hid (show BegL w lo (.slice (some ad) np cp) (.slice At nt ct) (.slice As ns cs) (.slice At nt ct) (.slice As ns cs) (.slice none 0 0) fuel ({ m with deep := if m.deep > c.depth then m.deep else c.depth }) (c) wc from hwc ▸ Q2.out)
  clear hwc Q2
  have ht := hid (fun (V : World) (B : BegL w lo (.slice (some ad) np cp) (.slice At nt ct) (.slice As ns cs) (.slice At nt ct) (.slice As ns cs) (.slice none 0 0) fuel ({ m with deep := if m.deep > c.depth then m.deep else c.depth }) (c) V) =>
   tell_any lo (.slice (some ad) np cp) fuel { m with deep := if m.deep > c.depth then m.deep else c.depth } (.slice At nt ct) (.slice As ns cs) kd c.f c.r0 hlen V B.st.e.tre (Nat.le_trans hlo B.st.e.chg.size) ⟨_, _, _, rfl⟩ ⟨_, _, _, rfl⟩)
  have HB1 := hid (show begin_ m c = tell { m with deep := if m.deep > c.depth then m.deep else c.depth } kd c.f c.r0 by unfold begin_; rw [HBB.out, HKD.out])
  unfold mval at ht
  generalize hmx : (if m.deep > c.depth then m.deep else c.depth) = mxx at *
  clear hmx
  have z0 : ∀ o, wc.cell? ⟨w.heap.size, o, none⟩ = (#[.slice (some ad) np cp, .int .i64 fuel, .bool m.spent, .int .i64 m.shared, .int .i64 m.made, .int .i64 mxx, .slice At nt ct, .slice As ns cs] : Array Value)[o]? := Q3.out.st.b0.cells
  have q0 : wc.cell? ⟨w.heap.size + 1, 0, none⟩ = some (.int .i64 c.f) := Q3.out.st.b1.cells 0
  have q2 : wc.cell? ⟨w.heap.size + 1, 2, none⟩ = some (.int .i64 c.r0) := Q3.out.st.b1.cells 2
  go_wp2_with fail
  refine (ht.out _ Q3.out).mono ?_
  rintro e w' ⟨tv', rfl, t1, t2, t3⟩
  obtain ⟨A2, n2, c2, rfl⟩ := tre_slice t1
  have hk := tell_end Q3.out.st t1 t2 t3
  have Y0 := hid (hk.blk Q3.out.st.e.tre Q3.out.st.e.prs Q3.out.st.b0 (by decide) (by decide))
  have y0 : ∀ o, w'.cell? ⟨w.heap.size, o, none⟩ = (#[.slice (some ad) np cp, .int .i64 fuel, .bool m.spent, .int .i64 m.shared, .int .i64 m.made, .int .i64 mxx, .slice At nt ct, .slice As ns cs] : Array Value)[o]? := Y0.out.cells
  have f0 := Y0.out.frozen
  have HK := hid hk
  clear hk t1 t2 t3 z0 q0 q2
  go_upto_region 9 with fail
  change (fun V => Code.wp _ _ _ _ V) _
  refine gen_world (X := fun V => BegL w lo (.slice (some ad) np cp) (.slice At nt ct) (.slice As ns cs) (.slice A2 n2 c2) (.slice As ns cs) (.slice none 0 0) fuel (tell { m with deep := mxx } kd c.f c.r0) c V) (BegL.whole0 Q3.out HK.out) ?_
  intro W4 hW4
  have Q4 := hid hW4
  clear hW4 y0 f0 Y0 HK Q3 ht
  rw [← HB1.out] at Q4
  generalize begin_ m c = m1 at *
  have y4 : W4.cell? ⟨w.heap.size + 1, 7, none⟩ = some (.int .i64 c.kind) := Q4.out.st.b1.cells 7
  have f1 := Q4.out.st.b1.frozen
  have Q5 := hid (Q4.out.put1 (c' := { c with kind := 1 }) 7 (.int .i64 1) rfl rfl)
  go_upto_region 10 with fail
  generalize W4.setCell ⟨w.heap.size + 1, 7, none⟩ (.int .i64 1) = W5 at *
  clear y4 f1 Q4
  have x0 : W5.cell? ⟨w.heap.size, 0, none⟩ = some (.slice (some ad) np cp) := Q5.out.st.b0.cells 0
  have x1 : W5.cell? ⟨w.heap.size + 1, 0, none⟩ = some (.int .i64 j) := (Q5.out.st.b1.cells 0).trans (congrArg (fun x => some (Value.int .i64 x)) HJ.out)
  have hc5 : W5.cell? (ad.add j) = some (.slice Ai xs.length ci) := ((lef_below Q5.out.st.e hE.out hlo).cell (by rw [block_of_add]; exact hadb)).trans hcell
  have HN := hid hn
  clear hcell hjn hn HXX HB1
  have HK9 := hid hK
  clear hd1 hd2 hK hlen hf0 hf1
  go_upto_region 11 with fail
  clear x0 x1 hc5
  go_upto_block 0 with fail
  go_cut [] (fun wx => ∃ (m' : M) (c' : Fr) (tv' sv' dv' : Value), BegL w lo (.slice (some ad) np cp) (.slice At nt ct) (.slice As ns cs) (tv') (sv') (dv') fuel (m') (c') wx ∧ Inv np fuel (K + 1) m' c' ∧ Same { c with kind := 1 } c' ∧ m'.spent = false ∧ R = (m', c'))
  case first =>
   go_wp2_with fail
   go_loopg [8] (fuel.toNat + 1) (fun k v wr => ∃ (a : Int) (m' : M) (c' : Fr) (tv' sv' dv' : Value), v = .int .i64 a ∧ BegL w lo (.slice (some ad) np cp) (.slice At nt ct) (.slice As ns cs) tv' sv' dv' fuel m' c' wr ∧ Inv np fuel (K + 1) m' c' ∧ Same { c with kind := 1 } c' ∧ m'.spent = false ∧ -1 ≤ a ∧ a ≤ 8 ∧ body inner xs fuel k m' c' a = R ∧ fuel - m'.made < k)
   case atStart =>
    have := INV.out.m.made0
    exact ⟨0, _, _, _, _, _, rfl, Q5.out, INV.out, Same.refl _, HSP0.out, by omega, by omega, HR.out, by omega⟩
   case round =>
    obtain ⟨a, m', c', tv', sv', dv', rfl, q, iv, sm, sp, a0, a8, hb, hf⟩ := hrel
    obtain ⟨k, rfl⟩ : ∃ k, gk = k + 1 := ⟨gk - 1, by have := iv.m.made1; omega⟩
    have SP := hid sp
    clear sp
    have Q := hid q
    have IV := hid iv
    have SM := hid sm
    have HB := hid hb
    have HF := hid hf
    clear q iv sm hb hf
    by_cases hin : 0 ≤ a ∧ a < xs.length
    ·obtain ⟨aN, rfl⟩ := Int.eq_ofNat_of_zero_le hin.1
     have hlt : aN < xs.length := by omega
     obtain ⟨s, hs⟩ : ∃ s, xs[aN]? = some s := ⟨_, List.getElem?_eq_getElem hlt⟩
     obtain ⟨A7, n7, c7, rfl⟩ := tre_slice Q.out.st.e.tre
     obtain ⟨A8, c8, rfl⟩ := own_slice Q.out.st.e.prs
     obtain ⟨A9, n9, c9, rfl⟩ := prs_slice Q.out.st.e.dfs
     have hb2 : decide ((aN : Int) < (xs.length : Int)) = true := by simpa using hlt
     have z1 : wr.cell? ⟨w.heap.size, 1, none⟩ = some (.int .i64 fuel) := Q.out.st.b0.cells 1
     have HS := hid hs
     clear hs
     by_cases hfu : m'.made = fuel
     ·have hR := hid (show R = ({ m' with spent := true }, c') by rw [← HB.out, body_full (Int.natCast_nonneg aN) (by rw [Int.toNat_natCast]; exact HS.out) hfu])
      have HRR := hid (show r = ({ m' with spent := true }, c') by rw [← Hr.out, hR.out]; rfl)
      have z4 : wr.cell? ⟨w.heap.size, 4, none⟩ = some (.int .i64 fuel) := (Q.out.st.b0.cells 4).trans (congrArg (fun x => some (Value.int .i64 x)) hfu)
      have z2 : wr.cell? ⟨w.heap.size, 2, none⟩ = some (.bool m'.spent) := Q.out.st.b0.cells 2
      have f0 := Q.out.st.b0.frozen
      have Q2 := hid (BegL.put0 Q.out (m' := { m' with spent := true }) 2 (.bool true) rfl rfl rfl)
      clear hfu hin
      go_upto_region 15 with fail
      clear z1 z2 z4 f0 Q
      generalize wr.setCell ⟨w.heap.size, 2, none⟩ (.bool true) = W6 at *
      have QD := hid (BegL.drew Q2.out)
      have f3 := Q2.out.b2.frozen
      have f4 := Q2.out.b3.frozen
      have z3 := Q2.out.b2.cells
      have z4 := Q2.out.b3.cells
      unfold mz at z3
      unfold fz at z4
      try go_wp2_with fail
      have S0 : (fun V : World => (∀ o, V.cell? ⟨w.heap.size, o, none⟩ = (mcells (.slice (some ad) np cp) fuel ({ m' with spent := true }) (.slice A7 n7 c7) (.slice A8 m'.seen.length c8))[o]?) ∧ (∀ o, V.cell? ⟨w.heap.size + 1, o, none⟩ = (fcells (c') (.slice A9 n9 c9))[o]?)) W6.drew := ⟨Q2.out.st.b0.cells, Q2.out.st.b1.cells⟩
      refine Last2.region_last [3] (fun V : World => (∀ o, V.cell? ⟨w.heap.size, o, none⟩ = (mcells (.slice (some ad) np cp) fuel ({ m' with spent := true }) (.slice A7 n7 c7) (.slice A8 m'.seen.length c8))[o]?) ∧ (∀ o, V.cell? ⟨w.heap.size + 1, o, none⟩ = (fcells (c') (.slice A9 n9 c9))[o]?)) (by kernel_rfl) ?_
      refine Last2.last_take (i := 0) (d := some 53) (v := ?v53) rfl rfl (by kernel_rfl) (by kernel_rfl) (by kernel_rfl) (fun _ _ _ h => h) rfl (by kernel_rfl) (by kernel_rfl) rfl ?y53 S0 ?r53
      case y53 => (intro V hV; unfold mcells fcells at hV; (try dsimp only at hV); go_simp; try with_reducible rfl)
      simp only [Act.put, List.setIfInBounds_toArray, List.set_cons_zero, List.set_cons_succ]
      refine Last2.last_take (i := 1) (d := some 54) (v := ?v54) rfl rfl (by kernel_rfl) (by kernel_rfl) (by kernel_rfl) (fun _ _ _ h => h) rfl (by kernel_rfl) (by kernel_rfl) rfl ?y54 S0 ?r54
      case y54 => (intro V hV; unfold mcells fcells at hV; (try dsimp only at hV); go_simp; try with_reducible rfl)
      simp only [Act.put, List.setIfInBounds_toArray, List.set_cons_zero, List.set_cons_succ]
      refine Last2.last_one (i := 2) (o := { dst := none, op := .store 151 (.tmp 4) (.tmp 53), type := 0, pos := _, after := _, guard := none }) (by kernel_rfl) rfl rfl (fun K hK => ?_)
      go_simp
      refine hK.out _ _ (fun _ => ⟨fun o => ?sa53, fun o => ?sb53⟩) ?rc53
      case sa53 =>
       refine Blk.cells (t := 151) (blk_drew ?_) o
       iterate 8 refine Blk.far ?_ _ _ (by show w.heap.size ≠ w.heap.size + 1 + 1; omega)
       exact Q2.out.st.b0
      case sb53 =>
       refine Blk.cells (t := 154) (blk_drew ?_) o
       iterate 8 refine Blk.far ?_ _ _ (by show w.heap.size + 1 ≠ w.heap.size + 1 + 1; omega)
       exact Q2.out.st.b1
      clear hK K S0
      change (fun V => Last2.wpAnyL _ _ _ _ _ _ _ _ _ V) _
      refine gen_world (X := fun V => Lef w lo (.slice At nt ct) (.slice As ns cs) (.slice A7 n7 c7) (.slice A8 m'.seen.length c8) (.slice A9 n9 c9) ({ m' with spent := true }) (c') V ∧ Blk V (w.heap.size + 1 + 1) 151 (mcells (.slice (some ad) np cp) fuel ({ m' with spent := true }) (.slice A7 n7 c7) (.slice A8 m'.seen.length c8)) ∧ Blk V (w.heap.size + 1 + 1 + 1) 154 fz) ?_ ?_
      ·have o := Sret.outsA (vp := .slice (some ad) np cp) (fuel := fuel) Q2.out.st.e Q2.out.b2 Q2.out.b3 (by omega) (by omega)
       exact ⟨o.1.drew, blk_drew o.2.1, blk_drew o.2.2⟩
      clear QD z3 f3 z4 f4
      intro V hV
      have HV := hid hV
      have z4 := hV.2.2.cells
      have f4 := hV.2.2.frozen
      clear hV
      unfold fz at z4
      refine Last2.last_one (i := 3) (o := { dst := none, op := .store 154 (.tmp 5) (.tmp 54), type := 0, pos := _, after := _, guard := none }) (by kernel_rfl) rfl rfl (fun K hK => ?_)
      go_simp
      refine hK.out _ _ (fun h => (h (by decide)).elim) ?_
      clear hK K z4 f4
      refine Last2.last_done (by kernel_rfl) ?_ _
      first | change (fun V => Exit.then _ _ _ _ V) _ | change (fun V => bodyPost _ _ _ _ _ V) _ | change (fun V => Code.wp _ _ _ _ V) _
      refine gen_world (X := fun V => Lef w lo (.slice At nt ct) (.slice As ns cs) (.slice A7 n7 c7) (.slice A8 m'.seen.length c8) (.slice A9 n9 c9) ({ m' with spent := true }) (c') V ∧ Blk V (w.heap.size + 1 + 1) 151 (mcells (.slice (some ad) np cp) fuel ({ m' with spent := true }) (.slice A7 n7 c7) (.slice A8 m'.seen.length c8)) ∧ Blk V (w.heap.size + 1 + 1 + 1) 154 (fcells (c') (.slice A9 n9 c9))) ?_ ?_
      ·exact Sret.outsB (vp := .slice (some ad) np cp) (fuel := fuel) HV.out.1 HV.out.2.1 HV.out.2.2 (by omega) (by omega)
      clear HV
      intro V hV
      obtain ⟨v0, v1, v2⟩ := hV
      have V0 := hid v0
      have V1 := v1.cells
      have V2 := v2.cells
      clear v0 v1 v2
      unfold mcells at V1
      unfold fcells at V2
      try dsimp only at V1
      try dsimp only at V2
      go_wp2_with fail
      exact bodyPost_ret (v := .tuple #[mval (.slice (some ad) np cp) fuel ({ m' with spent := true }) (.slice A7 n7 c7) (.slice A8 m'.seen.length c8), fval (c') (.slice A9 n9 c9)]) (by simp [results, Try.results111, go_sem, V1, V2, mval, fval]) rfl ⟨_, _, _, by rw [HRR.out], by rw [HRR.out]; exact V0.out⟩
     ·have hne : (m'.made == fuel) = false := by simpa using hfu
      have hsl : m'.seen.length ≤ 200 := by have := IV.out.m.seen; have := IV.out.m.made1; have := IV.out.m.fuel1; omega
      have hwm : IntKind.i64.wrap (m'.made + 1) = m'.made + 1 := IntWalk.i64_in _ (by have := IV.out.m.made0; have := IV.out.m.made1; have := IV.out.m.fuel1; omega)
      have HFU := hid hfu
      have z4 : wr.cell? ⟨w.heap.size, 4, none⟩ = some (.int .i64 m'.made) := Q.out.st.b0.cells 4
      have f0 := Q.out.st.b0.frozen
      have Q6 := hid (BegL.put0 Q.out (m' := { m' with made := m'.made + 1 }) 4 (.int .i64 (m'.made + 1)) rfl rfl rfl)
      clear hfu hin
      go_upto_region 17 with fail
      clear z1 z4 f0 Q hne
      generalize wr.setCell ⟨w.heap.size, 4, none⟩ (.int .i64 (m'.made + 1)) = W6 at *
      have z7 : W6.cell? ⟨w.heap.size, 7, none⟩ = some (.slice A8 m'.seen.length c8) := Q6.out.st.b0.cells 7
      have q0 : W6.cell? ⟨w.heap.size + 1, 0, none⟩ = some (.int .i64 c'.f) := Q6.out.st.b1.cells 0
      obtain ⟨i0, hi, hz0, hz1, hz2⟩ := info_parts infoP2
      have hlo6 : lo ≤ W6.heap.size := Nat.le_trans hlo Q6.out.st.e.chg.size
      go_wp2_with (at_builtin; refine App.row_list _ rfl (.tmp 60) (.tmp 65) 149 rfl lo 0 177 i0 _ 2 16 Try.underlying149 hi hz0 hz1 hz2 rfl (by decide) _ _ _ rfl (World.ownsRow.alloc Q6.out.st.e.prs _) _ 1 [.int .i64 c'.f, .int .i64 aN] rfl (App.pair_own (heap1_0 W6 _)) (by intro u hu; simp at hu; rcases hu with rfl | rfl <;> rfl) (by unfold maxLen; dsimp only; omega) (by dsimp only; omega) (by simp; omega) ?_)
      intro v1 w1 o1 g1 t1
      have HO := hid (show Prs w1 lo v1 (m'.seen ++ [(c'.f, (aN : Int))]) by
       unfold Prs
       rw [List.length_append, cells2_append]
       simpa [cells2, Srun.c2] using o1)
      have hB6 := Q6.out.st.b0.alloc (.cells #[.int .i64 c'.f, .int .i64 aN] 177)
      have hB7 := hB6.chg (Chg.of_grown g1) (fun e => blk_apart (World.ownsRow.alloc Q6.out.st.e.prs _) hB6 (by decide) (Eq.symm e))
      have kc : w1.cell? ⟨w.heap.size, 7, none⟩ = some (.slice A8 m'.seen.length c8) := hB7.cells 7
      have kf : w1.frozen? ⟨w.heap.size, 7, none⟩ = false := hB7.frozen 7
      have Q7 := hid (BegL.seen Q6.out Q6.out.st.e.fs ((App.Bl.refl W6).alloc _) g1 HO.out (by rw [World.size_alloc]; exact t1) hlo)
      obtain ⟨A10, c10, rfl⟩ := own_slice o1
      clear o1 g1 t1 hB6 hB7 z7 q0 Q6 HO
      obtain ⟨n10, hn10⟩ : ∃ n10, m'.seen.length + 1 = n10 := ⟨_, rfl⟩
      go_upto_region 18 with fail
      clear kc kf hb2 hwm
      rw [hn10] at Q7 ⊢
      clear hn10
      generalize w1.setCell ⟨w.heap.size, 7, none⟩ (.slice A10 n10 c10) = W7 at *
      have HM9 := hid (show WfM fuel (K + 1 - 2 * (c'.defers.length : Int) - 3) (count m' c'.f aN) from count_wf IV.out.m c'.f aN HFU.out)
      have Q8 := hid (show BegL w lo (.slice (some ad) np cp) (.slice At nt ct) (.slice As ns cs) (.slice A7 n7 c7) (.slice A10 n10 c10) (.slice A9 n9 c9) fuel (count m' c'.f aN) c' W7.drew from BegL.drew Q7.out)
      have hde : c'.defers.length ≤ 100000 := by have := IV.out.m.pot; have := IV.out.m.made1; have := HK9.out; omega
      have HSb := hid (HROW.out.keep (fun q hq => (lef_below Q8.out.st.e hE.out hlo).cell hq))
      obtain ⟨a2, hA2, ha2, x0, x1, x2⟩ := HSb.out aN s HS.out
      subst hA2
      have hmk := hid (SmkA.make_any lo (.slice A7 n7 c7) (.slice A10 n10 c10) (.slice A9 n9 c9) fuel (count m' c'.f aN) c' aN s _ inner p (some ad) np cp c.depth np HM9.out (by have := HK9.out; omega) IV.out.c ⟨by omega, by omega⟩ W7.drew ⟨Q8.out.st.e.tre, Q8.out.st.e.prs, Q8.out.st.e.dfs, Chg.refl _ _, fun _ h => .inl h, fun _ h => .inl h, Q8.out.st.e.fd⟩ (Nat.le_trans hlo Q8.out.st.e.chg.size) (lef_rd Q8.out.st.e hE.out hlo HRD.out) SP.out OK.out (SM.out.1) hD0 hde (by have := HX.out.2 aN s HS.out; rwa [HN.out] at this))
      have HBG := hid (show R = if (mk inner (count m' c'.f aN) c' aN s).1.spent then ((mk inner (count m' c'.f aN) c' aN s).1, (mk inner (count m' c'.f aN) c' aN s).2.1) else body inner xs fuel k (mk inner (count m' c'.f aN) c' aN s).1 (mk inner (count m' c'.f aN) c' aN s).2.1 (mk inner (count m' c'.f aN) c' aN s).2.2 from HB.out.symm.trans (body_go (Int.natCast_nonneg aN) (by rw [Int.toNat_natCast]; exact HS.out) HFU.out))
      have hokS : okStep np s = true := by have := HX.out.2 aN s HS.out; rwa [HN.out] at this
      have HMI := hid (mk_inv (K := K + 1) HG.out (m := count m' c'.f aN) (c := c') ⟨HM9.out.up (by omega), IV.out.c⟩ SM.out.1 aN ⟨by omega, by have := HX.out.1; omega⟩ s hokS)
      have HMD := hid (show (count m' c'.f aN).made = m'.made + 1 from rfl)
      generalize hm9 : count m' c'.f aN = m9 at *
      clear hm9 Q7 hde hokS
      generalize mk inner m9 c' aN s = q at *
      unfold Ret3 mval fval at hmk
      have u0 : ∀ o, W7.drew.cell? ⟨w.heap.size, o, none⟩ = (#[.slice (some ad) np cp, .int .i64 fuel, .bool m9.spent, .int .i64 m9.shared, .int .i64 m9.made, .int .i64 m9.deep, .slice A7 n7 c7, .slice A10 n10 c10] : Array Value)[o]? := Q8.out.st.b0.cells
      have u1 : ∀ o, W7.drew.cell? ⟨w.heap.size + 1, o, none⟩ = (#[.int .i64 c'.f, .int .i64 c'.depth, .int .i64 c'.r0, .int .i64 c'.r1, .int .i64 c'.r2, .int .i64 c'.r3, .slice A9 n9 c9, .int .i64 c'.kind, .int .i64 c'.value, .bool c'.leaving, .bool c'.deferred, .bool c'.panicking, .int .i64 c'.panic, .bool c'.recovered, .int .i64 c'.outer] : Array Value)[o]? := Q8.out.st.b1.cells
      have hk0 : (0 : Int) ≤ (aN : Int) := by omega
      have hk1 : (aN : Int) < (xs.length : Int) := by omega
      have S0 : (fun V : World => (∀ o, V.cell? ⟨w.heap.size, o, none⟩ = (#[.slice (some ad) np cp, .int .i64 fuel, .bool m9.spent, .int .i64 m9.shared, .int .i64 m9.made, .int .i64 m9.deep, .slice A7 n7 c7, .slice A10 n10 c10] : Array Value)[o]?) ∧ (∀ o, V.cell? ⟨w.heap.size + 1, o, none⟩ = (#[.int .i64 c'.f, .int .i64 c'.depth, .int .i64 c'.r0, .int .i64 c'.r1, .int .i64 c'.r2, .int .i64 c'.r3, .slice A9 n9 c9, .int .i64 c'.kind, .int .i64 c'.value, .bool c'.leaving, .bool c'.deferred, .bool c'.panicking, .int .i64 c'.panic, .bool c'.recovered, .int .i64 c'.outer] : Array Value)[o]?) ∧ V.cell? (a2.add (aN * 3)) = some (.int .i64 s.1) ∧ V.cell? ⟨(a2.add (aN * 3)).block, (a2.add (aN * 3)).off + 1, none⟩ = some (.int .i64 s.2.1) ∧ V.cell? ⟨(a2.add (aN * 3)).block, (a2.add (aN * 3)).off + 2, none⟩ = some (.int .i64 s.2.2)) W7.drew := ⟨u0, u1, x0, x1, x2⟩
      try go_wp2_with fail
      refine Last2.region_last [8, 9, 10, 11, 12, 13, 14] (fun V : World => (∀ o, V.cell? ⟨w.heap.size, o, none⟩ = (#[.slice (some ad) np cp, .int .i64 fuel, .bool m9.spent, .int .i64 m9.shared, .int .i64 m9.made, .int .i64 m9.deep, .slice A7 n7 c7, .slice A10 n10 c10] : Array Value)[o]?) ∧ (∀ o, V.cell? ⟨w.heap.size + 1, o, none⟩ = (#[.int .i64 c'.f, .int .i64 c'.depth, .int .i64 c'.r0, .int .i64 c'.r1, .int .i64 c'.r2, .int .i64 c'.r3, .slice A9 n9 c9, .int .i64 c'.kind, .int .i64 c'.value, .bool c'.leaving, .bool c'.deferred, .bool c'.panicking, .int .i64 c'.panic, .bool c'.recovered, .int .i64 c'.outer] : Array Value)[o]?) ∧ V.cell? (a2.add (aN * 3)) = some (.int .i64 s.1) ∧ V.cell? ⟨(a2.add (aN * 3)).block, (a2.add (aN * 3)).off + 1, none⟩ = some (.int .i64 s.2.1) ∧ V.cell? ⟨(a2.add (aN * 3)).block, (a2.add (aN * 3)).off + 2, none⟩ = some (.int .i64 s.2.2)) (by kernel_rfl) ?_
      refine Last2.last_take (i := 0) (d := some 69) (v := ?v0) rfl rfl (by kernel_rfl) (by kernel_rfl) (by kernel_rfl) (fun _ _ _ h => h) rfl (by kernel_rfl) (by kernel_rfl) rfl ?y0 S0 ?r0
      case y0 => (intro V hV; (try dsimp only at hV); go_simp; try with_reducible rfl)
      simp only [Act.put, List.setIfInBounds_toArray, List.set_cons_zero, List.set_cons_succ]
      refine Last2.last_take (i := 1) (d := some 70) (v := ?v1) rfl rfl (by kernel_rfl) (by kernel_rfl) (by kernel_rfl) (fun _ _ _ h => h) rfl (by kernel_rfl) (by kernel_rfl) rfl ?y1 S0 ?r1
      case y1 => (intro V hV; (try dsimp only at hV); go_simp; try with_reducible rfl)
      simp only [Act.put, List.setIfInBounds_toArray, List.set_cons_zero, List.set_cons_succ]
      refine Last2.last_take (i := 2) (d := some 71) (v := ?v2) rfl rfl (by kernel_rfl) (by kernel_rfl) (by kernel_rfl) (fun _ _ _ h => h) rfl (by kernel_rfl) (by kernel_rfl) rfl ?y2 S0 ?r2
      case y2 => (intro V hV; (try dsimp only at hV); go_simp; try with_reducible rfl)
      simp only [Act.put, List.setIfInBounds_toArray, List.set_cons_zero, List.set_cons_succ]
      refine Last2.last_take (i := 3) (d := some 72) (v := ?v3) rfl rfl (by kernel_rfl) (by kernel_rfl) (by kernel_rfl) (fun _ _ _ h => h) rfl (by kernel_rfl) (by kernel_rfl) rfl ?y3 S0 ?r3
      case y3 => (intro V hV; (try dsimp only at hV); go_simp; try with_reducible rfl)
      simp only [Act.put, List.setIfInBounds_toArray, List.set_cons_zero, List.set_cons_succ]
      refine Last2.last_take (i := 4) (d := some 73) (v := ?v4) rfl rfl (by kernel_rfl) (by kernel_rfl) (by kernel_rfl) (fun _ _ _ h => h) rfl (by kernel_rfl) (by kernel_rfl) rfl ?y4 S0 ?r4
      case y4 => (intro V hV; (try dsimp only at hV); go_simp; try with_reducible rfl)
      simp only [Act.put, List.setIfInBounds_toArray, List.set_cons_zero, List.set_cons_succ]
      refine Last2.last_take (i := 5) (d := some 74) (v := ?v5) rfl rfl (by kernel_rfl) (by kernel_rfl) (by kernel_rfl) (fun _ _ _ h => h) rfl (by kernel_rfl) (by kernel_rfl) rfl ?y5 S0 ?r5
      case y5 => (intro V hV; (try dsimp only at hV); go_simp; try with_reducible rfl)
      simp only [Act.put, List.setIfInBounds_toArray, List.set_cons_zero, List.set_cons_succ]
      refine Last2.last_take (i := 6) (d := some 75) (v := ?v6) rfl rfl (by kernel_rfl) (by kernel_rfl) (by kernel_rfl) (fun _ _ _ h => h) rfl (by kernel_rfl) (by kernel_rfl) rfl ?y6 S0 ?r6
      case y6 => (intro V hV; (try dsimp only at hV); go_simp; try with_reducible rfl)
      simp only [Act.put, List.setIfInBounds_toArray, List.set_cons_zero, List.set_cons_succ]
      refine Last2.last_one (i := 7) (o := { dst := some 76, op := .call { callee := .value (.func 125), args := #[.tmp 69, .tmp 70, .tmp 71, .tmp 75], argTypes := #[151, 154, 3, 139] }, type := _, pos := _, after := _, guard := none }) (by kernel_rfl) rfl rfl (fun K hK => ?_)
      go_simp
      refine hmk.out.mono ?_
      rintro e w2 ⟨tv2, sv2, dv2, rfl, hk⟩
      obtain ⟨B7, p7, e7, rfl⟩ := tre_slice hk.tre
      obtain ⟨B8, p8, e8, rfl⟩ := prs_slice hk.prs
      obtain ⟨B9, p9, e9, rfl⟩ := prs_slice hk.dfs
      have Y0 := hid (hk.blk Q8.out.st.e.tre Q8.out.st.e.prs Q8.out.st.b0 (by decide) (by decide))
      have Y1 := hid (hk.blk Q8.out.st.e.tre Q8.out.st.e.prs Q8.out.st.b1 (by decide) (by decide))
      have y0 : ∀ o, w2.cell? ⟨w.heap.size, o, none⟩ = (#[.slice (some ad) np cp, .int .i64 fuel, .bool m9.spent, .int .i64 m9.shared, .int .i64 m9.made, .int .i64 m9.deep, .slice A7 n7 c7, .slice A10 n10 c10] : Array Value)[o]? := Y0.out.cells
      have y1 : ∀ o, w2.cell? ⟨w.heap.size + 1, o, none⟩ = (#[.int .i64 c'.f, .int .i64 c'.depth, .int .i64 c'.r0, .int .i64 c'.r1, .int .i64 c'.r2, .int .i64 c'.r3, .slice A9 n9 c9, .int .i64 c'.kind, .int .i64 c'.value, .bool c'.leaving, .bool c'.deferred, .bool c'.panicking, .int .i64 c'.panic, .bool c'.recovered, .int .i64 c'.outer] : Array Value)[o]? := Y1.out.cells
      have f0 := Y0.out.frozen
      have f1 := Y1.out.frozen
      have HK0 := hid hk
      have HK := hid (Q8.out.st.e.trans hk)
      obtain ⟨a3, hA3, ha3, x3, x4, x5⟩ := (HROW.out.keep (fun q hq => (lef_below HK.out hE.out hlo).cell hq)) aN s HS.out
      obtain rfl : a2 = a3 := by simpa using hA3
      have S1 := hid (And.intro y0 (And.intro y1 (And.intro x3 (And.intro x4 x5))))
      refine hK.out _ _ (fun _ => S1.out) ?_
      clear hK K S0 u0 u1 x0 x1 x2 x3 x4 x5 hA3 ha3 hk hmk
      try simp only [Act.put, List.setIfInBounds_toArray, List.set_cons_zero, List.set_cons_succ]
      refine Last2.last_late (i := 8) (d := some 68) (v := ?v8) rfl rfl (by kernel_rfl) (by kernel_rfl) (by kernel_rfl) (fun _ _ _ h => h) rfl rfl ?y8 ?r8
      case y8 => (intro V; go_simp; try with_reducible rfl)
      simp only [Act.put, List.setIfInBounds_toArray, List.set_cons_zero, List.set_cons_succ]
      refine Last2.last_late (i := 9) (d := some 77) (v := ?v9) rfl rfl (by kernel_rfl) (by kernel_rfl) (by kernel_rfl) (fun _ _ _ h => h) rfl rfl ?y9 ?r9
      case y9 => (intro V; go_simp; try with_reducible rfl)
      simp only [Act.put, List.setIfInBounds_toArray, List.set_cons_zero, List.set_cons_succ]
      refine Last2.last_late (i := 10) (d := some 78) (v := ?v10) rfl rfl (by kernel_rfl) (by kernel_rfl) (by kernel_rfl) (fun _ _ _ h => h) rfl rfl ?y10 ?r10
      case y10 => (intro V; go_simp; try with_reducible rfl)
      simp only [Act.put, List.setIfInBounds_toArray, List.set_cons_zero, List.set_cons_succ]
      refine Last2.last_late (i := 11) (d := some 79) (v := ?v11) rfl rfl (by kernel_rfl) (by kernel_rfl) (by kernel_rfl) (fun _ _ _ h => h) rfl rfl ?y11 ?r11
      case y11 => (intro V; go_simp; try with_reducible rfl)
      simp only [Act.put, List.setIfInBounds_toArray, List.set_cons_zero, List.set_cons_succ]
      refine Last2.last_one (i := 12) (o := { dst := none, op := .store 151 (.tmp 2) (.tmp 77), type := 0, pos := _, after := _, guard := none }) (by kernel_rfl) rfl rfl (fun K hK => ?_)
      go_simp
      refine hK.out _ _ (fun h => (h (by decide)).elim) ?_
      clear hK K
      change (fun V => Last2.wpAnyL _ _ _ _ _ _ _ _ _ V) _
      refine gen_world (X := fun V => MidL w lo (.slice (some ad) np cp) (.slice At nt ct) (.slice As ns cs) (.slice B7 p7 e7) (.slice B8 p8 e8) (.slice B9 p9 e9) (.slice A9 n9 c9) fuel q.1 q.2.1 c' V) ?_ ?_
      ·first | exact midA Q8.out HK0.out | exact (midA Q8.out HK0.out).drew
      intro V hV
      have HV := hid hV
      have y1 := hV.b1.cells
      have f1 := hV.b1.frozen
      unfold fcells at y1
      clear hV y0 f0 Y0 Y1 S1 HK HK0 Q8
      refine Last2.last_one (i := 13) (o := { dst := none, op := .store 154 (.tmp 3) (.tmp 78), type := 0, pos := _, after := _, guard := none }) (by kernel_rfl) rfl rfl (fun K hK => ?_)
      go_simp
      refine hK.out _ _ (fun h => (h (by decide)).elim) ?_
      clear hK K y1 f1
      change (fun V => Last2.wpAnyL _ _ _ _ _ _ _ _ _ V) _
      refine gen_world (X := fun V => BegL w lo (.slice (some ad) np cp) (.slice At nt ct) (.slice As ns cs) (.slice B7 p7 e7) (.slice B8 p8 e8) (.slice B9 p9 e9) fuel (q.1) (q.2.1) V) ?_ ?_
      ·exact midB HV.out
      clear HV
      intro V hV
      have Q9 := hid hV
      clear hV
      refine Last2.last_one (i := 14) (o := { dst := some 8, op := .assign (.tmp 79), type := 3, pos := _, after := _, guard := none }) (by kernel_rfl) rfl rfl (fun K hK => ?_)
      go_simp
      refine hK.out _ _ (fun h => (h (by decide)).elim) ?_
      clear hK K
      refine Last2.last_done (by kernel_rfl) ?_ _
      have y2 : V.cell? ⟨w.heap.size, 2, none⟩ = some (.bool q.1.spent) := Q9.out.st.b0.cells 2
      cases hs : q.1.spent with
      | true =>
       have hRR := HBG.out
       rw [if_pos hs] at hRR
       have HRR := hid (show r = (q.1, q.2.1) by rw [← Hr.out, hRR]; unfold afterB; rw [if_pos hs])
       rw [hs] at y2
       clear hs hRR
       go_upto_region 20 with fail
       clear y2
       have QD := hid (BegL.drew Q9.out)
       have f3 := Q9.out.b2.frozen
       have f4 := Q9.out.b3.frozen
       have z3 := Q9.out.b2.cells
       have z4 := Q9.out.b3.cells
       unfold mz at z3
       unfold fz at z4
       try go_wp2_with fail
       have S0 : (fun V : World => (∀ o, V.cell? ⟨w.heap.size, o, none⟩ = (mcells (.slice (some ad) np cp) fuel (q.1) (.slice B7 p7 e7) (.slice B8 p8 e8))[o]?) ∧ (∀ o, V.cell? ⟨w.heap.size + 1, o, none⟩ = (fcells (q.2.1) (.slice B9 p9 e9))[o]?)) V.drew := ⟨Q9.out.st.b0.cells, Q9.out.st.b1.cells⟩
       refine Last2.region_last [3] (fun V : World => (∀ o, V.cell? ⟨w.heap.size, o, none⟩ = (mcells (.slice (some ad) np cp) fuel (q.1) (.slice B7 p7 e7) (.slice B8 p8 e8))[o]?) ∧ (∀ o, V.cell? ⟨w.heap.size + 1, o, none⟩ = (fcells (q.2.1) (.slice B9 p9 e9))[o]?)) (by kernel_rfl) ?_
       refine Last2.last_take (i := 0) (d := some 82) (v := ?v82) rfl rfl (by kernel_rfl) (by kernel_rfl) (by kernel_rfl) (fun _ _ _ h => h) rfl (by kernel_rfl) (by kernel_rfl) rfl ?y82 S0 ?r82
       case y82 => (intro V hV; unfold mcells fcells at hV; (try dsimp only at hV); go_simp; try with_reducible rfl)
       simp only [Act.put, List.setIfInBounds_toArray, List.set_cons_zero, List.set_cons_succ]
       refine Last2.last_take (i := 1) (d := some 83) (v := ?v83) rfl rfl (by kernel_rfl) (by kernel_rfl) (by kernel_rfl) (fun _ _ _ h => h) rfl (by kernel_rfl) (by kernel_rfl) rfl ?y83 S0 ?r83
       case y83 => (intro V hV; unfold mcells fcells at hV; (try dsimp only at hV); go_simp; try with_reducible rfl)
       simp only [Act.put, List.setIfInBounds_toArray, List.set_cons_zero, List.set_cons_succ]
       refine Last2.last_one (i := 2) (o := { dst := none, op := .store 151 (.tmp 4) (.tmp 82), type := 0, pos := _, after := _, guard := none }) (by kernel_rfl) rfl rfl (fun K hK => ?_)
       go_simp
       refine hK.out _ _ (fun _ => ⟨fun o => ?sa82, fun o => ?sb82⟩) ?rc82
       case sa82 =>
        refine Blk.cells (t := 151) (blk_drew ?_) o
        iterate 8 refine Blk.far ?_ _ _ (by show w.heap.size ≠ w.heap.size + 1 + 1; omega)
        exact Q9.out.st.b0
       case sb82 =>
        refine Blk.cells (t := 154) (blk_drew ?_) o
        iterate 8 refine Blk.far ?_ _ _ (by show w.heap.size + 1 ≠ w.heap.size + 1 + 1; omega)
        exact Q9.out.st.b1
       clear hK K S0
       change (fun V => Last2.wpAnyL _ _ _ _ _ _ _ _ _ V) _
       refine gen_world (X := fun V => Lef w lo (.slice At nt ct) (.slice As ns cs) (.slice B7 p7 e7) (.slice B8 p8 e8) (.slice B9 p9 e9) (q.1) (q.2.1) V ∧ Blk V (w.heap.size + 1 + 1) 151 (mcells (.slice (some ad) np cp) fuel (q.1) (.slice B7 p7 e7) (.slice B8 p8 e8)) ∧ Blk V (w.heap.size + 1 + 1 + 1) 154 fz) ?_ ?_
       ·have o := Sret.outsA (vp := .slice (some ad) np cp) (fuel := fuel) Q9.out.st.e Q9.out.b2 Q9.out.b3 (by omega) (by omega)
        exact ⟨o.1.drew, blk_drew o.2.1, blk_drew o.2.2⟩
       clear QD z3 f3 z4 f4
       intro V hV
       have HV := hid hV
       have z4 := hV.2.2.cells
       have f4 := hV.2.2.frozen
       clear hV
       unfold fz at z4
       refine Last2.last_one (i := 3) (o := { dst := none, op := .store 154 (.tmp 5) (.tmp 83), type := 0, pos := _, after := _, guard := none }) (by kernel_rfl) rfl rfl (fun K hK => ?_)
       go_simp
       refine hK.out _ _ (fun h => (h (by decide)).elim) ?_
       clear hK K z4 f4
       refine Last2.last_done (by kernel_rfl) ?_ _
       first | change (fun V => Exit.then _ _ _ _ V) _ | change (fun V => bodyPost _ _ _ _ _ V) _ | change (fun V => Code.wp _ _ _ _ V) _
       refine gen_world (X := fun V => Lef w lo (.slice At nt ct) (.slice As ns cs) (.slice B7 p7 e7) (.slice B8 p8 e8) (.slice B9 p9 e9) (q.1) (q.2.1) V ∧ Blk V (w.heap.size + 1 + 1) 151 (mcells (.slice (some ad) np cp) fuel (q.1) (.slice B7 p7 e7) (.slice B8 p8 e8)) ∧ Blk V (w.heap.size + 1 + 1 + 1) 154 (fcells (q.2.1) (.slice B9 p9 e9))) ?_ ?_
       ·exact Sret.outsB (vp := .slice (some ad) np cp) (fuel := fuel) HV.out.1 HV.out.2.1 HV.out.2.2 (by omega) (by omega)
       clear HV
       intro V hV
       obtain ⟨v0, v1, v2⟩ := hV
       have V0 := hid v0
       have V1 := v1.cells
       have V2 := v2.cells
       clear v0 v1 v2
       unfold mcells at V1
       unfold fcells at V2
       try dsimp only at V1
       try dsimp only at V2
       go_wp2_with fail
       exact bodyPost_ret (v := .tuple #[mval (.slice (some ad) np cp) fuel (q.1) (.slice B7 p7 e7) (.slice B8 p8 e8), fval (q.2.1) (.slice B9 p9 e9)]) (by simp [results, Try.results111, go_sem, V1, V2, mval, fval]) rfl ⟨_, _, _, by rw [HRR.out], by rw [HRR.out]; exact V0.out⟩
      | false =>
       have hRR := HBG.out
       rw [if_neg (by rw [hs]; decide)] at hRR
       obtain ⟨m1, m2, m3, m4, m5⟩ := HMI.out
       have hmm := HMD.out
       rw [hs] at y2
       have REL := hid (show ∃ (a : Int) (m' : M) (c' : Fr) (tv' sv' dv' : Value), Value.int .i64 q.2.2 = .int .i64 a ∧ BegL w lo (.slice (some ad) np cp) (.slice At nt ct) (.slice As ns cs) tv' sv' dv' fuel m' c' V ∧ Inv np fuel (K + 1) m' c' ∧ Same { c with kind := 1 } c' ∧ m'.spent = false ∧ -1 ≤ a ∧ a ≤ 8 ∧ body inner xs fuel k m' c' a = R ∧ fuel - m'.made < k from
        ⟨q.2.2, q.1, q.2.1, _, _, _, rfl, Q9.out, m1, SM.out.trans m2, hs, m4, m5, hRR.symm, by have := HF.out; omega⟩)
       clear hs hRR m1 m2 m3 m4 m5 hmm Q9
       go_wp2_with fail
       go_roundg k
       case measure => omega
       case rel => exact REL.out
    ·have hR := hid (show R = (m', c') by rw [← HB.out, body_out (by omega)])
     by_cases ha : 0 ≤ a
     ·have hge : ¬ a < xs.length := by omega
      have hb1 : decide (0 ≤ a) = true := by simpa using ha
      have hb2 : decide (a < (xs.length : Int)) = false := by simpa using hge
      clear hin
      go_wp2_with fail
      go_meet
      exact ⟨m', c', _, _, _, Q.out, IV.out, SM.out, SP.out, hR.out⟩
     ·have hb1 : decide (0 ≤ a) = false := by simpa using ha
      clear hin
      go_wp2_with fail
      go_meet
      exact ⟨m', c', _, _, _, Q.out, IV.out, SM.out, SP.out, hR.out⟩
  case rest =>
   obtain ⟨m1', c1, tv', sv', dv', q, iv, sm, sp, hR1⟩ := hcut
   exact absurd HCASE.out (by rw [hR1]; rw [show (m1', c1).1 = m1' from rfl, sp]; decide)
end Go.Proofs.Ythejnpignlhgiaa.ScallA
-- squeezed
