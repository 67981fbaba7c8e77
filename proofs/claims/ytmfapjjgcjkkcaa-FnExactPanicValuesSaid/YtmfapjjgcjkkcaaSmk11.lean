/- l2Make at a step of kind 11. (Written by wip/tools/genmake.py.) -/
import Derived.Test.YtmfapjjgcjkkcaaM4
namespace Go.Proofs.Ytmfapjjgcjkkcaa.Smk11
set_option linter.unusedVariables false
set_option linter.unusedSimpArgs false
open Go.ChangeShapes Go.WideShapes Go.ChangeAt Go.RowKit
open PL Mem Srun Sst Ssim
open Smk

set_option maxRecDepth 100000 in
set_option maxHeartbeats 4000000 in
theorem make_11 (lo : Nat) (vp tv sv dv : Value) (fuel : Int) (m : M) (c : Fr) (pl a b : Int) (n K : Int) (inner : PL.Call) (hm : WfM fuel K m) (hK : K ≤ 10000) (hc : WfF n c) (hp : 0 ≤ pl ∧ pl ≤ 8) (w : World) (he : Lef w lo tv sv tv sv dv m c w) (hlo : lo ≤ w.heap.size) (hvp : ∃ A n c, vp = .slice A n c) (hb : 0 ≤ b ∧ b ≤ 3) (ha : 0 ≤ a ∧ a ≤ 8) :
    Calls Try.prog 127 #[mval vp fuel m tv sv, fval c dv, .int .i64 pl, .agg #[.int .i64 11, .int .i64 a, .int .i64 b]] w fun e w' => Ret3 w lo vp tv sv fuel (mk inner m c pl (11, a, b)) e w' := by
  obtain ⟨Ap, np, cp, rfl⟩ := hvp
  obtain ⟨As, ns, cs, rfl⟩ := prs_slice he.prs
  obtain ⟨Ad, nd, cd, rfl⟩ := prs_slice he.dfs
  obtain ⟨At, nt, ct, rfl⟩ := tre_slice he.tre
  have hE := Lib.hid he
  have hlen : m.trace.length ≤ 100000 := by have := hm.pot; have := hm.made1; omega
  clear he
  obtain ⟨r, hr⟩ : ∃ r, mk inner m c pl (11, a, b) = r := ⟨_, rfl⟩
  have HR := Lib.hid hr
  rw [hr]
  have HM := Lib.hid hm
  have HC := Lib.hid hc
  clear hr hm hc
  unfold mval fval
  go_enter Try.func127, Try.ntmps127
  go_upto_block 0 with fail
  change (fun W => Code.wp _ _ _ _ W) _
  refine gen_world (X := BegS w lo (.slice Ap np cp) (.slice At nt ct) (.slice As ns cs) (.slice At nt ct) (.slice As ns cs) (.slice Ad nd cd) fuel m c (11, a, b))
    ⟨⟨⟨((((hE.out.alloc _).alloc _).alloc _).alloc _).alloc _, heap5_0 w _ _ _ _ _, heap5_1 w _ _ _ _ _, Nat.le_refl _, Nat.le_succ _⟩, heap5_3 w _ _ _ _ _, heap5_4 w _ _ _ _ _⟩, heap5_2 w _ _ _ _ _⟩ ?_
  intro W HX
  have X := Lib.hid HX.1
  have z2 := HX.2.cells
  clear HX
  obtain ⟨hb0, hb3⟩ := hb
  have hb4 : b < 4 := by omega
  clear hb3
  have zb := (X.out.st.b1.cells (2 + b.toNat)).trans (fcells_reg c _ b hb0 hb4)
  by_cases hj : 0 < reg c b
  · have HE : Hid (r = (m, c, a)) := Lib.hid (by rw [← HR.out]; simp [mk, hj])
    have Q := X
    go_upto_region 20 with fail
    clear zb
    have z0 := Q.out.st.b0.cells
    have z1 := Q.out.st.b1.cells
    have z3 := Q.out.b3.cells
    have z4 := Q.out.b4.cells
    have f3 := Q.out.b3.frozen
    have f4 := Q.out.b4.frozen
    unfold mcells at z0
    unfold fcells at z1
    unfold mz at z3
    unfold fz at z4
    try dsimp only at z1
    go_wp2_with fail
    go_region
    change (fun V => Exit.then _ _ _ _ V) _
    refine gen_world (X := fun V => Lef w lo (.slice At nt ct) (.slice As ns cs) (.slice At nt ct) (.slice As ns cs) (.slice Ad nd cd) (m) (c) V ∧ Blk V (w.heap.size + 1 + 1 + 1) 107 (mcells (.slice Ap np cp) fuel (m) (.slice At nt ct) (.slice As ns cs)) ∧ Blk V (w.heap.size + 1 + 1 + 1 + 1) 110 (fcells (c) (.slice Ad nd cd))) ?_ ?_
    · have o := outs (vp := .slice Ap np cp) (fuel := fuel) Q.out.st.e Q.out.b3 Q.out.b4 (by omega) (by omega) (by omega)
      exact ⟨o.1.drew, blk_drew o.2.1, blk_drew o.2.2⟩
    intro V hV
    obtain ⟨v0, v1, v2⟩ := hV
    have V0 := Lib.hid v0
    have V1 := v1.cells
    have V2 := v2.cells
    clear v0 v1 v2 z0 z1 z3 z4 f3 f4
    unfold mcells at V1
    unfold fcells at V2
    try dsimp only at V2
    go_wp2_with fail
    exact bodyPost_ret (v := .tuple #[mval (.slice Ap np cp) fuel (m) (.slice At nt ct) (.slice As ns cs), fval (c) (.slice Ad nd cd), .int .i64 (a)]) (by simp [results, Try.results127, go_sem, V1, V2, mval, fval]) rfl ⟨_, _, _, by rw [HE.out], by rw [HE.out]; exact V0.out⟩
  · have HE : Hid (r = (m, c, pl + 1)) := Lib.hid (by rw [← HR.out]; simp [mk, show ¬ 0 < reg c b from hj])
    have Q := X
    go_upto_region 21 with fail
    clear zb
    have z0 := Q.out.st.b0.cells
    have z1 := Q.out.st.b1.cells
    have z3 := Q.out.b3.cells
    have z4 := Q.out.b4.cells
    have f3 := Q.out.b3.frozen
    have f4 := Q.out.b4.frozen
    unfold mcells at z0
    unfold fcells at z1
    unfold mz at z3
    unfold fz at z4
    try dsimp only at z1
    go_wp2_with fail
    go_region
    change (fun V => Exit.then _ _ _ _ V) _
    refine gen_world (X := fun V => Lef w lo (.slice At nt ct) (.slice As ns cs) (.slice At nt ct) (.slice As ns cs) (.slice Ad nd cd) (m) (c) V ∧ Blk V (w.heap.size + 1 + 1 + 1) 107 (mcells (.slice Ap np cp) fuel (m) (.slice At nt ct) (.slice As ns cs)) ∧ Blk V (w.heap.size + 1 + 1 + 1 + 1) 110 (fcells (c) (.slice Ad nd cd))) ?_ ?_
    · have o := outs (vp := .slice Ap np cp) (fuel := fuel) Q.out.st.e Q.out.b3 Q.out.b4 (by omega) (by omega) (by omega)
      exact ⟨o.1.drew, blk_drew o.2.1, blk_drew o.2.2⟩
    intro V hV
    obtain ⟨v0, v1, v2⟩ := hV
    have V0 := Lib.hid v0
    have V1 := v1.cells
    have V2 := v2.cells
    clear v0 v1 v2 z0 z1 z3 z4 f3 f4
    unfold mcells at V1
    unfold fcells at V2
    try dsimp only at V2
    go_wp2_with fail
    exact bodyPost_ret (v := .tuple #[mval (.slice Ap np cp) fuel (m) (.slice At nt ct) (.slice As ns cs), fval (c) (.slice Ad nd cd), .int .i64 (pl + 1)]) (by simp [results, Try.results127, go_sem, V1, V2, mval, fval]) rfl ⟨_, _, _, by rw [HE.out], by rw [HE.out]; exact V0.out⟩
end Go.Proofs.Ytmfapjjgcjkkcaa.Smk11
