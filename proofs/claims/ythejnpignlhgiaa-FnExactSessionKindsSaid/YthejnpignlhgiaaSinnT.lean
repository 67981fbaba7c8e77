import Derived.Test.YthejnpignlhgiaaM4
set_option linter.all false
namespace Go.Proofs.Ythejnpignlhgiaa.SinnT
open Lib (hid)
open Go.ChangeShapes Go.WideShapes Go.ChangeAt Go.RowKit
open PL Mem Srun Sst Ssim
open Smk Sinn0
set_option maxRecDepth 100000 in
set_option maxHeartbeats 4000000 in
theorem inner_t (lo : Nat) (tv sv dv : Value) (fuel : Int) (m : M) (c : Fr) (k pl a b : Int) (K : Int) (inner : PL.Call) (p : Pg) (Ap : Option Addr) (np cp : Nat) (D N : Int) (hm : WfM fuel K m) (hK : K ≤ 9000) (hc : WfF N c) (hp : 0 ≤ pl ∧ pl ≤ 8) (w : World) (he : Lef w lo tv sv tv sv dv m c w) (hlo : lo ≤ w.heap.size) (hrd : RdP w lo Ap p) (hsp0 : m.spent = false) (hok : CallOkN lo Ap np cp p fuel N (D + 1) inner) (hD : c.depth = D) (hD0 : 1 ≤ D ∧ D ≤ 8) (hb : 0 ≤ b ∧ b ≤ 3) (ha : 0 ≤ a ∧ a < N) (hk1 : (inner m (newFrame a (c.depth + 1) (reg c b))).2.kind ≠ 1) (hcl : c.leaving = true) :
  Calls Try.prog 134 #[mval (.slice Ap np cp) fuel m tv sv, fval c dv, .int .i64 pl, .agg #[.int .i64 k, .int .i64 a, .int .i64 b]] w fun e w' => Ret3 w lo (.slice Ap np cp) tv sv fuel (mkCall (inner m (newFrame a (c.depth + 1) (reg c b))) c pl) e w' := by
 have hd1 : 1 ≤ c.depth := by omega
 have hd2 : c.depth ≤ 8 := by omega
 have HD := hid hD
 clear hD hD0
 obtain ⟨As, ns, cs, rfl⟩ := prs_slice he.prs
 obtain ⟨Ad, nd, cd, rfl⟩ := prs_slice he.dfs
 obtain ⟨At, nt, ct, rfl⟩ := tre_slice he.tre
 have hE := hid he
 have hlen : m.trace.length ≤ 100000 := by have := hm.pot; have := hm.made1; omega
 clear he
 obtain ⟨r, hr⟩ : ∃ r, mkCall (inner m (newFrame a (c.depth + 1) (reg c b))) c pl = r := ⟨_, rfl⟩
 have HR := hid hr
 rw [hr]
 have HM := hid hm
 have HC := hid hc
 have HRD := hid hrd
 have OK := hid hok
 have HSP0 := hid hsp0
 clear hr hm hc hrd hok hsp0
 have K1 := hid hk1
 clear hk1
 have HCL := hid hcl
 clear hcl
 unfold mval fval
 go_enter Try.func134, Try.ntmps134
 go_upto_region 1 with fail
 change (fun W => Code.wp _ _ _ _ W) _
 refine gen_world (X := BegS w lo (.slice Ap np cp) (.slice At nt ct) (.slice As ns cs) (.slice At nt ct) (.slice As ns cs) (.slice Ad nd cd) fuel m c (k, a, b))
  ⟨⟨⟨((((hE.out.alloc _).alloc _).alloc _).alloc _).alloc _, heap5_0 w _ _ _ _ _, heap5_1 w _ _ _ _ _, Nat.le_refl _, Nat.le_succ _⟩, heap5_3 w _ _ _ _ _, heap5_4 w _ _ _ _ _⟩, heap5_2 w _ _ _ _ _⟩ ?_
 intro W HX
 have X := hid HX.1
 have z2 := HX.2.cells
 clear HX
 obtain ⟨hb0, hb3⟩ := hb
 have hb4 : b < 4 := by omega
 clear hb3
 have zb := (X.out.st.b1.cells (2 + b.toNat)).trans (fcells_reg c _ b hb0 hb4)
 have z0 : ∀ o, W.cell? ⟨w.heap.size, o, none⟩ = (#[.slice Ap np cp, .int .i64 fuel, .bool m.spent, .int .i64 m.shared, .int .i64 m.made, .int .i64 m.deep, .slice At nt ct, .slice As ns cs] : Array Value)[o]? := X.out.st.b0.cells
 have y1 : W.cell? ⟨w.heap.size + 1, 1, none⟩ = some (.int .i64 c.depth) := X.out.st.b1.cells 1
 have hcl0 := hid (OK.out K m (newFrame a (c.depth + 1) (reg c b)) (.slice At nt ct) (.slice As ns cs) W HM.out hK (newFrame_wf a (c.depth + 1) (reg c b) ha.1 ha.2 (reg_N HC.out b)) (by show c.depth + 1 = D + 1; rw [HD.out]) rfl (lef_rd X.out.st.e hE.out hlo HRD.out)
  ⟨X.out.st.e.tre, X.out.st.e.prs, ⟨by rfl, .inl ⟨rfl, rfl⟩⟩, Chg.refl _ _, fun _ h => .inl h, fun _ h => .inl h, fun x hx => by simp [Value.ownBlock] at hx⟩ (Nat.le_trans hlo X.out.st.e.chg.size) HSP0.out)
 generalize inner m (newFrame a (c.depth + 1) (reg c b)) = q at *
 obtain ⟨m', i⟩ := q
 dsimp only at hcl0
 unfold Ret mval fval newFrame at hcl0
 dsimp only at hcl0
 go_wp2_with fail
 refine hcl0.mono ?_
 rintro e w' ⟨tv', sv', div, rfl, hk⟩
 obtain ⟨A2, n2, c2, rfl⟩ := tre_slice hk.tre
 obtain ⟨A3, n3, c3, rfl⟩ := prs_slice hk.prs
 obtain ⟨A4, n4', c4, rfl⟩ := prs_slice hk.dfs
 have Y0 := hid (hk.blk X.out.st.e.tre X.out.st.e.prs X.out.st.b0 (by decide) (by decide))
 have Y1 := hid (hk.blk X.out.st.e.tre X.out.st.e.prs X.out.st.b1 (by decide) (by decide))
 have Y3 := hid (hk.blk X.out.st.e.tre X.out.st.e.prs X.out.b3 (by decide) (by decide))
 have Y4 := hid (hk.blk X.out.st.e.tre X.out.st.e.prs X.out.b4 (by decide) (by decide))
 have y0 : ∀ ob o, (w'.alloc ob).cell? ⟨w.heap.size, o, none⟩ = (#[.slice Ap np cp, .int .i64 fuel, .bool m.spent, .int .i64 m.shared, .int .i64 m.made, .int .i64 m.deep, .slice At nt ct, .slice As ns cs] : Array Value)[o]? := fun ob => (Y0.out.alloc ob).cells
 have f0 : ∀ ob o, (w'.alloc ob).frozen? ⟨w.heap.size, o, none⟩ = false := fun ob => (Y0.out.alloc ob).frozen
 have y9 : ∀ cs t o, (w'.alloc (.cells cs t)).cell? ⟨w'.heap.size, o, none⟩ = cs[o]? := fun cs t => Blk.cells (t := t) (by unfold Blk; exact heap1_0 w' _)
 have f9 : ∀ cs t o, (w'.alloc (.cells cs t)).frozen? ⟨w'.heap.size, o, none⟩ = false := fun cs t => Blk.frozen (t := t) (cs := cs) (by unfold Blk; exact heap1_0 w' _)
 have s0 : w.heap.size + 1 < w'.heap.size := Y1.out.lt
 have n0 : w.heap.size ≠ w'.heap.size := by omega
 have n1 : w'.heap.size ≠ w.heap.size := by omega
 have HK := hid hk
 clear hk z0 z2 y1 zb hcl0
 go_upto_region 3 with fail
 change (fun V => Code.wp _ _ _ _ V) _
 refine gen_world (X := fun V => Beg w lo (.slice Ap np cp) (.slice At nt ct) (.slice As ns cs) (.slice A2 n2 c2) (.slice A3 n3 c3) (.slice Ad nd cd) fuel m' c V ∧ Blk V w'.heap.size 154 (fcells i (.slice A4 n4' c4))) (inner_world X.out HK.out (Blk.lt Y4.out)) ?_
 intro V hV
 have Q := hid hV.1
 have I := hid hV.2
 clear hV y0 f0 y9 f9 n0 n1
 have H5 : w.heap.size + 4 < w'.heap.size := Blk.lt Y4.out
 clear Y0 Y1 Y3 Y4 HK
 generalize w'.heap.size = H at *
 have i3 : V.cell? ⟨H, 3, none⟩ = some (.int .i64 i.r1) := I.out.cells 3
 have i7 : V.cell? ⟨H, 7, none⟩ = some (.int .i64 i.kind) := I.out.cells 7
 have i8 : V.cell? ⟨H, 8, none⟩ = some (.int .i64 i.value) := I.out.cells 8
 have y4 : V.cell? ⟨w.heap.size + 1, 4, none⟩ = some (.int .i64 c.r2) := Q.out.st.b1.cells 4
 have y7 : V.cell? ⟨w.heap.size + 1, 7, none⟩ = some (.int .i64 c.kind) := Q.out.st.b1.cells 7
 have y8 : V.cell? ⟨w.heap.size + 1, 8, none⟩ = some (.int .i64 c.value) := Q.out.st.b1.cells 8
 have f1 := Q.out.st.b1.frozen
 have k1 : i.kind ≠ 1 := K1.out
 have e1 : (i.kind == 1) = false := by simp [k1]
 have hp' : pl + 1 = pl + 1 := rfl
 go_upto_block 0 with fail
 go_cut [] (fun wx => RelI w lo (.slice Ap np cp) (.slice At nt ct) (.slice As ns cs) (.slice A2 n2 c2) (.slice A3 n3 c3) (.slice Ad nd cd) (.slice A4 n4' c4) fuel m' c i H r wx)
 case first =>
  by_cases k2 : i.kind = 2
  ·have e2 : (i.kind == 2) = true := by simp [k2]
   have HE : Hid (r = (m', { c with kind := 2, value := i.value, leaving := c.leaving || i.leaving }, -1)) := hid (by rw [← HR.out]; simp [mkCall, innerEnd, k2])
   have q := (Q.out.put1 (c' := { c with kind := 2 }) 7 (.int .i64 2) rfl rfl).put1 (c' := { c with kind := 2, value := i.value }) 8 (.int .i64 i.value) rfl rfl
   have J := (I.out.far ⟨w.heap.size + 1, 7, none⟩ (.int .i64 2) (by show H ≠ w.heap.size + 1; omega)).far ⟨w.heap.size + 1, 8, none⟩ (.int .i64 i.value) (by show H ≠ w.heap.size + 1; omega)
   have n1 : H ≠ w.heap.size + 1 := by omega
   have n2 : w.heap.size + 1 ≠ H := by omega
   clear k1 k2
   go_wp2_with fail
   go_meet
   exact ⟨_, HE.out, q, J, rfl⟩
  ·have e2 : (i.kind == 2) = false := by simp [k2]
   by_cases k3 : i.kind = 3
   ·have e3 : (i.kind == 3) = true := by simp [k3]
    have HE : Hid (r = (m', { c with kind := 3, leaving := c.leaving || i.leaving }, -1)) := hid (by rw [← HR.out]; simp [mkCall, innerEnd, k3])
    have q := Q.out.put1 (c' := { c with kind := 3 }) 7 (.int .i64 3) rfl rfl
    have J := I.out.far ⟨w.heap.size + 1, 7, none⟩ (.int .i64 3) (by show H ≠ w.heap.size + 1; omega)
    clear k1 k2 k3
    go_wp2_with fail
    go_meet
    exact ⟨_, HE.out, q, J, rfl⟩
   ·have e3 : (i.kind == 3) = false := by simp [k3]
    have HE : Hid (r = (m', { c with leaving := c.leaving || i.leaving }, -1)) := hid (by rw [← HR.out]; simp [mkCall, innerEnd, k1, k2, k3])
    clear k1 k2 k3
    go_wp2_with fail
    go_meet
    exact ⟨c, HE.out, Q.out, I.out, rfl⟩
 case rest =>
  obtain ⟨cx, HE0, hB, hI, hl⟩ := hcut
  have HL := hid hl
  rename World => wx
  have HE := hid HE0
  have B := hid hB
  have i9 : wx.cell? ⟨H, 9, none⟩ = some (.bool i.leaving) := hI.cells 9
  have y9 : wx.cell? ⟨w.heap.size + 1, 9, none⟩ = some (.bool cx.leaving) := hB.st.b1.cells 9
  have f1 := hB.st.b1.frozen
  have q := hB.put1 (c' := { cx with leaving := cx.leaving || i.leaving }) 9 (.bool (cx.leaving || i.leaving)) rfl rfl
  have hcl := HL.out.trans HCL.out
  clear HE0 hB hI hl i3 i7 i8 y4 y7 y8
  rw [hcl] at y9
  have Q2 := hid q
  clear q
  go_upto_region 13 with fail
  have hw : (wx.setCell ⟨w.heap.size + 1, 9, none⟩ (.bool true)) = wx.setCell ⟨w.heap.size + 1, 9, none⟩ (.bool (cx.leaving || i.leaving)) := by rw [hcl]; rfl
  rw [hw]
  clear hw y9 i9 f1 hcl
  generalize wx.setCell ⟨w.heap.size + 1, 9, none⟩ (.bool (cx.leaving || i.leaving)) = W2 at *
  have z0 := Q2.out.st.b0.cells
  have z1 := Q2.out.st.b1.cells
  have z3 := Q2.out.b3.cells
  have z4 := Q2.out.b4.cells
  have f3 := Q2.out.b3.frozen
  have f4 := Q2.out.b4.frozen
  unfold mcells at z0
  unfold fcells at z1
  unfold mz at z3
  unfold fz at z4
  try dsimp only at z1
  go_wp2_with fail
  go_region
  change (fun V => Exit.then _ _ _ _ V) _
  refine gen_world (X := fun V => Lef w lo (.slice At nt ct) (.slice As ns cs) (.slice A2 n2 c2) (.slice A3 n3 c3) (.slice Ad nd cd) (m') (({ cx with leaving := cx.leaving || i.leaving })) V ∧ Blk V (w.heap.size + 1 + 1 + 1) 151 (mcells (.slice Ap np cp) fuel (m') (.slice A2 n2 c2) (.slice A3 n3 c3)) ∧ Blk V (w.heap.size + 1 + 1 + 1 + 1) 154 (fcells (({ cx with leaving := cx.leaving || i.leaving })) (.slice Ad nd cd))) ?_ ?_
  ·have o := outs (vp := .slice Ap np cp) (fuel := fuel) Q2.out.st.e Q2.out.b3 Q2.out.b4 (by omega) (by omega) (by omega)
   exact ⟨o.1.drew, blk_drew o.2.1, blk_drew o.2.2⟩
  intro V hV
  obtain ⟨v0, v1, v2⟩ := hV
  have V0 := hid v0
  have V1 := v1.cells
  have V2 := v2.cells
  clear v0 v1 v2 z0 z1 z3 z4 f3 f4
  unfold mcells at V1
  unfold fcells at V2
  try dsimp only at V2
  go_wp2_with fail
  exact bodyPost_ret (v := .tuple #[mval (.slice Ap np cp) fuel (m') (.slice A2 n2 c2) (.slice A3 n3 c3), fval (({ cx with leaving := cx.leaving || i.leaving })) (.slice Ad nd cd), .int .i64 (-1)]) (by simp [results, Try.results134, go_sem, V1, V2, mval, fval]) rfl ⟨_, _, _, by rw [HE.out], by rw [HE.out]; exact V0.out⟩
end Go.Proofs.Ythejnpignlhgiaa.SinnT
-- squeezed
