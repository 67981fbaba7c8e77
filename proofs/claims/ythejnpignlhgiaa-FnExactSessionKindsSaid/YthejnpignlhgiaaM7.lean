import Derived.Test.YthejnpignlhgiaaM4
set_option linter.all false
namespace Go.Proofs.Ythejnpignlhgiaa.Smk8
open Go.ChangeShapes Go.WideShapes Go.ChangeAt Go.RowKit
open PL Mem Srun Sst Ssim
open Smk
set_option maxRecDepth 100000 in
set_option maxHeartbeats 4000000 in
theorem make_8 (lo : Nat) (vp tv sv dv : Value) (fuel : Int) (m : M) (c : Fr) (pl a b : Int) (n K : Int) (inner : PL.Call) (hm : WfM fuel K m) (hK : K ≤ 10000) (hc : WfF n c) (hp : 0 ≤ pl ∧ pl ≤ 8) (w : World) (he : Lef w lo tv sv tv sv dv m c w) (hlo : lo ≤ w.heap.size) (hvp : ∃ A n c, vp = .slice A n c) (ha : 0 ≤ a ∧ a ≤ 3) :
  Calls Try.prog 125 #[mval vp fuel m tv sv, fval c dv, .int .i64 pl, .agg #[.int .i64 8, .int .i64 a, .int .i64 b]] w fun e w' => Ret3 w lo vp tv sv fuel (mk inner m c pl (8, a, b)) e w' := by
 obtain ⟨Ap, np, cp, rfl⟩ := hvp
 obtain ⟨As, ns, cs, rfl⟩ := prs_slice he.prs
 obtain ⟨Ad, nd, cd, rfl⟩ := prs_slice he.dfs
 obtain ⟨At, nt, ct, rfl⟩ := tre_slice he.tre
 have hE := Lib.hid he
 have hlen : m.trace.length ≤ 100000 := by have := hm.pot; have := hm.made1; omega
 clear he
 obtain ⟨r, hr⟩ : ∃ r, mk inner m c pl (8, a, b) = r := ⟨_, rfl⟩
 have HR := Lib.hid hr
 rw [hr]
 have HM := Lib.hid hm
 have HC := Lib.hid hc
 clear hr hm hc
 unfold mval fval
 go_enter Try.func125, Try.ntmps125
 go_upto_block 0 with fail
 change (fun W => Code.wp _ _ _ _ W) _
 refine gen_world (X := BegS w lo (.slice Ap np cp) (.slice At nt ct) (.slice As ns cs) (.slice At nt ct) (.slice As ns cs) (.slice Ad nd cd) fuel m c (8, a, b))
  ⟨⟨⟨((((hE.out.alloc _).alloc _).alloc _).alloc _).alloc _, heap5_0 w _ _ _ _ _, heap5_1 w _ _ _ _ _, Nat.le_refl _, Nat.le_succ _⟩, heap5_3 w _ _ _ _ _, heap5_4 w _ _ _ _ _⟩, heap5_2 w _ _ _ _ _⟩ ?_
 intro W HX
 have X := Lib.hid HX.1
 have z2 := HX.2.cells
 clear HX
 obtain ⟨ha0, ha3⟩ := ha
 have ha4 : a < 4 := by omega
 clear ha3
 have za := (X.out.st.b1.cells (2 + a.toNat)).trans (fcells_reg c _ a ha0 ha4)
 have y3 : W.cell? ⟨w.heap.size + 1, 3, none⟩ = some (.int .i64 c.r1) := X.out.st.b1.cells 3
 have f1 := X.out.st.b1.frozen
 have q := X.out.put1 (c' := { c with r1 := reg c a }) 3 (.int .i64 (reg c a)) rfl rfl
 have HE : Hid (r = (m, { c with r1 := reg c a }, -1)) := Lib.hid (by rw [← HR.out]; simp [mk])
 have Q := Lib.hid q
 clear q
 go_upto_region 13 with fail
 clear za y3 f1 z2
 generalize W.setCell ⟨w.heap.size + 1, 3, none⟩ (.int .i64 (reg c a)) = W2 at *
 have z0 := Q.out.st.b0.cells
 have z1 := Q.out.st.b1.cells
 have z3 := Q.out.b3.cells
 have z4 := Q.out.b4.cells
 have f3 := Q.out.b3.frozen
 have f4 := Q.out.b4.frozen
 unfold mcells at z0
 unfold fcells at z1
 unfold mz at z3
 unfold fz at z4
 try dsimp only at z1
 go_wp2_with fail
 go_region
 change (fun V => Exit.then _ _ _ _ V) _
 refine gen_world (X := fun V => Lef w lo (.slice At nt ct) (.slice As ns cs) (.slice At nt ct) (.slice As ns cs) (.slice Ad nd cd) (m) ({ c with r1 := reg c a }) V ∧ Blk V (w.heap.size + 1 + 1 + 1) 151 (mcells (.slice Ap np cp) fuel (m) (.slice At nt ct) (.slice As ns cs)) ∧ Blk V (w.heap.size + 1 + 1 + 1 + 1) 154 (fcells ({ c with r1 := reg c a }) (.slice Ad nd cd))) ?_ ?_
 ·have o := outs (vp := .slice Ap np cp) (fuel := fuel) Q.out.st.e Q.out.b3 Q.out.b4 (by omega) (by omega) (by omega)
  exact ⟨o.1.drew, blk_drew o.2.1, blk_drew o.2.2⟩
 intro V hV
 obtain ⟨v0, v1, v2⟩ := hV
 have V0 := Lib.hid v0
 have V1 := v1.cells
 have V2 := v2.cells
 clear v0 v1 v2 z0 z1 z3 z4 f3 f4
 unfold mcells at V1
 unfold fcells at V2
 try dsimp only at V2
 go_wp2_with fail
 exact bodyPost_ret (v := .tuple #[mval (.slice Ap np cp) fuel (m) (.slice At nt ct) (.slice As ns cs), fval ({ c with r1 := reg c a }) (.slice Ad nd cd), .int .i64 (-1)]) (by simp [results, Try.results125, go_sem, V1, V2, mval, fval]) rfl ⟨_, _, _, by rw [HE.out], by rw [HE.out]; exact V0.out⟩
end Go.Proofs.Ythejnpignlhgiaa.Smk8

namespace Go.Proofs.Ythejnpignlhgiaa.Smk10
open Go.ChangeShapes Go.WideShapes Go.ChangeAt Go.RowKit
open PL Mem Srun Sst Ssim
open Smk
set_option maxRecDepth 100000 in
set_option maxHeartbeats 4000000 in
theorem make_10 (lo : Nat) (vp tv sv dv : Value) (fuel : Int) (m : M) (c : Fr) (pl a b : Int) (n K : Int) (inner : PL.Call) (hm : WfM fuel K m) (hK : K ≤ 10000) (hc : WfF n c) (hp : 0 ≤ pl ∧ pl ≤ 8) (w : World) (he : Lef w lo tv sv tv sv dv m c w) (hlo : lo ≤ w.heap.size) (hvp : ∃ A n c, vp = .slice A n c) :
  Calls Try.prog 125 #[mval vp fuel m tv sv, fval c dv, .int .i64 pl, .agg #[.int .i64 10, .int .i64 a, .int .i64 b]] w fun e w' => Ret3 w lo vp tv sv fuel (mk inner m c pl (10, a, b)) e w' := by
 obtain ⟨Ap, np, cp, rfl⟩ := hvp
 obtain ⟨As, ns, cs, rfl⟩ := prs_slice he.prs
 obtain ⟨Ad, nd, cd, rfl⟩ := prs_slice he.dfs
 obtain ⟨At, nt, ct, rfl⟩ := tre_slice he.tre
 have hE := Lib.hid he
 have hlen : m.trace.length ≤ 100000 := by have := hm.pot; have := hm.made1; omega
 clear he
 obtain ⟨r, hr⟩ : ∃ r, mk inner m c pl (10, a, b) = r := ⟨_, rfl⟩
 have HR := Lib.hid hr
 rw [hr]
 have HM := Lib.hid hm
 have HC := Lib.hid hc
 clear hr hm hc
 unfold mval fval
 go_enter Try.func125, Try.ntmps125
 go_upto_block 0 with fail
 change (fun W => Code.wp _ _ _ _ W) _
 refine gen_world (X := BegS w lo (.slice Ap np cp) (.slice At nt ct) (.slice As ns cs) (.slice At nt ct) (.slice As ns cs) (.slice Ad nd cd) fuel m c (10, a, b))
  ⟨⟨⟨((((hE.out.alloc _).alloc _).alloc _).alloc _).alloc _, heap5_0 w _ _ _ _ _, heap5_1 w _ _ _ _ _, Nat.le_refl _, Nat.le_succ _⟩, heap5_3 w _ _ _ _ _, heap5_4 w _ _ _ _ _⟩, heap5_2 w _ _ _ _ _⟩ ?_
 intro W HX
 have X := Lib.hid HX.1
 have z2 := HX.2.cells
 clear HX
 have y7 : W.cell? ⟨w.heap.size + 1, 7, none⟩ = some (.int .i64 c.kind) := X.out.st.b1.cells 7
 have y9 : W.cell? ⟨w.heap.size + 1, 9, none⟩ = some (.bool c.leaving) := X.out.st.b1.cells 9
 have f1 := X.out.st.b1.frozen
 have q := X.out.put1 (c' := { c with kind := 3 }) 7 (.int .i64 3) rfl rfl
 have q2 := q.put1 (c' := { c with kind := 3, leaving := true }) 9 (.bool true) rfl rfl
 have HE : Hid (r = (m, { c with kind := 3, leaving := true }, -1)) := Lib.hid (by rw [← HR.out]; simp [mk])
 have Q := Lib.hid q2
 clear q q2
 go_upto_region 17 with fail
 clear y7 y9 f1 z2
 generalize (W.setCell ⟨w.heap.size + 1, 7, none⟩ (.int .i64 3)).setCell ⟨w.heap.size + 1, 9, none⟩ (.bool true) = W2 at *
 have z0 := Q.out.st.b0.cells
 have z1 := Q.out.st.b1.cells
 have z3 := Q.out.b3.cells
 have z4 := Q.out.b4.cells
 have f3 := Q.out.b3.frozen
 have f4 := Q.out.b4.frozen
 unfold mcells at z0
 unfold fcells at z1
 unfold mz at z3
 unfold fz at z4
 try dsimp only at z1
 go_wp2_with fail
 go_region
 change (fun V => Exit.then _ _ _ _ V) _
 refine gen_world (X := fun V => Lef w lo (.slice At nt ct) (.slice As ns cs) (.slice At nt ct) (.slice As ns cs) (.slice Ad nd cd) (m) ({ c with kind := 3, leaving := true }) V ∧ Blk V (w.heap.size + 1 + 1 + 1) 151 (mcells (.slice Ap np cp) fuel (m) (.slice At nt ct) (.slice As ns cs)) ∧ Blk V (w.heap.size + 1 + 1 + 1 + 1) 154 (fcells ({ c with kind := 3, leaving := true }) (.slice Ad nd cd))) ?_ ?_
 ·have o := outs (vp := .slice Ap np cp) (fuel := fuel) Q.out.st.e Q.out.b3 Q.out.b4 (by omega) (by omega) (by omega)
  exact ⟨o.1.drew, blk_drew o.2.1, blk_drew o.2.2⟩
 intro V hV
 obtain ⟨v0, v1, v2⟩ := hV
 have V0 := Lib.hid v0
 have V1 := v1.cells
 have V2 := v2.cells
 clear v0 v1 v2 z0 z1 z3 z4 f3 f4
 unfold mcells at V1
 unfold fcells at V2
 try dsimp only at V2
 go_wp2_with fail
 exact bodyPost_ret (v := .tuple #[mval (.slice Ap np cp) fuel (m) (.slice At nt ct) (.slice As ns cs), fval ({ c with kind := 3, leaving := true }) (.slice Ad nd cd), .int .i64 (-1)]) (by simp [results, Try.results125, go_sem, V1, V2, mval, fval]) rfl ⟨_, _, _, by rw [HE.out], by rw [HE.out]; exact V0.out⟩
end Go.Proofs.Ythejnpignlhgiaa.Smk10
