import Derived.Test.YthejnpignlhgiaaM4
set_option linter.all false
namespace Go.Proofs.Ythejnpignlhgiaa.Smk6
open Lib (hid)
open Go.ChangeShapes Go.WideShapes Go.ChangeAt Go.RowKit
open PL Mem Srun Sst Ssim
open Smk
set_option maxRecDepth 100000 in
set_option maxHeartbeats 4000000 in
theorem make_6 (lo : Nat) (vp tv sv dv : Value) (fuel : Int) (m : M) (c : Fr) (pl a b : Int) (n K : Int) (inner : PL.Call) (hm : WfM fuel K m) (hK : K ≤ 10000) (hc : WfF n c) (hp : 0 ≤ pl ∧ pl ≤ 8) (w : World) (he : Lef w lo tv sv tv sv dv m c w) (hlo : lo ≤ w.heap.size) (hvp : ∃ A n c, vp = .slice A n c) (ha : 0 ≤ a ∧ a ≤ 3) :
  Calls Try.prog 125 #[mval vp fuel m tv sv, fval c dv, .int .i64 pl, .agg #[.int .i64 6, .int .i64 a, .int .i64 b]] w fun e w' => Ret3 w lo vp tv sv fuel (mk inner m c pl (6, a, b)) e w' := by
 obtain ⟨Ap, np, cp, rfl⟩ := hvp
 obtain ⟨As, ns, cs, rfl⟩ := prs_slice he.prs
 obtain ⟨Ad, nd, cd, rfl⟩ := prs_slice he.dfs
 obtain ⟨At, nt, ct, rfl⟩ := tre_slice he.tre
 have hE := hid he
 have hlen : m.trace.length ≤ 100000 := by have := hm.pot; have := hm.made1; omega
 clear he
 obtain ⟨r, hr⟩ : ∃ r, mk inner m c pl (6, a, b) = r := ⟨_, rfl⟩
 have HR := hid hr
 rw [hr]
 have HM := hid hm
 have HC := hid hc
 clear hr hm hc
 unfold mval fval
 go_enter Try.func125, Try.ntmps125
 go_upto_block 0 with fail
 change (fun W => Code.wp _ _ _ _ W) _
 refine gen_world (X := BegS w lo (.slice Ap np cp) (.slice At nt ct) (.slice As ns cs) (.slice At nt ct) (.slice As ns cs) (.slice Ad nd cd) fuel m c (6, a, b))
  ⟨⟨⟨((((hE.out.alloc _).alloc _).alloc _).alloc _).alloc _, heap5_0 w _ _ _ _ _, heap5_1 w _ _ _ _ _, Nat.le_refl _, Nat.le_succ _⟩, heap5_3 w _ _ _ _ _, heap5_4 w _ _ _ _ _⟩, heap5_2 w _ _ _ _ _⟩ ?_
 intro W HX
 have X := hid HX.1
 have z2 := HX.2.cells
 clear HX
 obtain ⟨ha0, ha3⟩ := ha
 have ha4 : a < 4 := by omega
 clear ha3
 have za := (X.out.st.b1.cells (2 + a.toNat)).trans (fcells_reg c _ a ha0 ha4)
 have y7 : W.cell? ⟨w.heap.size + 1, 7, none⟩ = some (.int .i64 c.kind) := X.out.st.b1.cells 7
 have y8 : W.cell? ⟨w.heap.size + 1, 8, none⟩ = some (.int .i64 c.value) := X.out.st.b1.cells 8
 have f1 := X.out.st.b1.frozen
 have q := X.out.put1 (c' := { c with kind := 2 }) 7 (.int .i64 2) rfl rfl
 have q2 := q.put1 (c' := { c with kind := 2, value := reg c a }) 8 (.int .i64 (reg c a)) rfl rfl
 have za' : (W.setCell ⟨w.heap.size + 1, 7, none⟩ (.int .i64 2)).cell? ⟨w.heap.size + 1, 2 + a.toNat, none⟩ = some (.int .i64 (reg c a)) := (q.st.b1.cells (2 + a.toNat)).trans (fcells_reg { c with kind := 2 } _ a ha0 ha4)
 have HE : Hid (r = (tell m 5 c.f (reg c a), { c with kind := 2, value := reg c a }, -1)) := hid (by rw [← HR.out]; simp [mk])
 have Q := hid q2
 clear q q2
 go_upto_region 10 with fail
 clear za za' y7 y8 f1 z2
 generalize (W.setCell ⟨w.heap.size + 1, 7, none⟩ (.int .i64 2)).setCell ⟨w.heap.size + 1, 8, none⟩ (.int .i64 (reg c a)) = W2 at *
 have ht := hid (fun (V : World) (B : Beg w lo (.slice Ap np cp) (.slice At nt ct) (.slice As ns cs) (.slice At nt ct) (.slice As ns cs) (.slice Ad nd cd) fuel m { c with kind := 2, value := reg c a } V) =>
  tell_any lo (.slice Ap np cp) fuel m (.slice At nt ct) (.slice As ns cs) 5 c.f (reg c a) hlen V B.st.e.tre (Nat.le_trans hlo B.st.e.chg.size) ⟨_, _, _, rfl⟩ ⟨_, _, _, rfl⟩)
 unfold mval at ht
 have QD := hid Q.out.drew
 have s0 : ∀ o, W2.drew.cell? ⟨w.heap.size, o, none⟩ = (#[.slice Ap np cp, .int .i64 fuel, .bool m.spent, .int .i64 m.shared, .int .i64 m.made, .int .i64 m.deep, .slice At nt ct, .slice As ns cs] : Array Value)[o]? := QD.out.st.b0.cells
 have s1 : ∀ o, W2.drew.cell? ⟨w.heap.size + 1, o, none⟩ = (#[.int .i64 c.f, .int .i64 c.depth, .int .i64 c.r0, .int .i64 c.r1, .int .i64 c.r2, .int .i64 c.r3, .slice Ad nd cd, .int .i64 2, .int .i64 (reg c a), .bool c.leaving, .bool c.deferred, .bool c.panicking, .int .i64 c.panic, .bool c.recovered, .int .i64 c.outer] : Array Value)[o]? := QD.out.st.b1.cells
 have s0' : ∀ o, W2.cell? ⟨w.heap.size, o, none⟩ = (#[.slice Ap np cp, .int .i64 fuel, .bool m.spent, .int .i64 m.shared, .int .i64 m.made, .int .i64 m.deep, .slice At nt ct, .slice As ns cs] : Array Value)[o]? := QD.out.st.b0.cells
 have s1' : ∀ o, W2.cell? ⟨w.heap.size + 1, o, none⟩ = (#[.int .i64 c.f, .int .i64 c.depth, .int .i64 c.r0, .int .i64 c.r1, .int .i64 c.r2, .int .i64 c.r3, .slice Ad nd cd, .int .i64 2, .int .i64 (reg c a), .bool c.leaving, .bool c.deferred, .bool c.panicking, .int .i64 c.panic, .bool c.recovered, .int .i64 c.outer] : Array Value)[o]? := QD.out.st.b1.cells
 go_wp2_with fail
 go_region_held3 (fun w' => (∀ o, w'.cell? ⟨w.heap.size, o, none⟩ = (#[.slice Ap np cp, .int .i64 fuel, .bool m.spent, .int .i64 m.shared, .int .i64 m.made, .int .i64 m.deep, .slice At nt ct, .slice As ns cs] : Array Value)[o]?) ∧ (∀ o, w'.cell? ⟨w.heap.size + 1, o, none⟩ = (#[.int .i64 c.f, .int .i64 c.depth, .int .i64 c.r0, .int .i64 c.r1, .int .i64 c.r2, .int .i64 c.r3, .slice Ad nd cd, .int .i64 2, .int .i64 (reg c a), .bool c.leaving, .bool c.deferred, .bool c.panicking, .int .i64 c.panic, .bool c.recovered, .int .i64 c.outer] : Array Value)[o]?))
  (first | (with_reducible exact ⟨s0, s1⟩) | (with_reducible exact ⟨s0', s1'⟩) | (with_reducible exact ⟨y0, y1⟩) | (refine ⟨fun o => ?_, fun o => ?_⟩ <;> (simp (disch := omega) only [cell_far]; first | (with_reducible exact y0 o) | (with_reducible exact y1 o) | (with_reducible exact s0 o) | (with_reducible exact s1 o))))
  (first | (go_at_call 124; refine (ht.out _ QD.out).mono ?_; rintro e w' ⟨tv', rfl, t1, t2, t3⟩; obtain ⟨A2, n2, c2, rfl⟩ := tre_slice t1; have hk := tell_end QD.out.st t1 t2 t3; have y0 : ∀ o, w'.cell? ⟨w.heap.size, o, none⟩ = (#[.slice Ap np cp, .int .i64 fuel, .bool m.spent, .int .i64 m.shared, .int .i64 m.made, .int .i64 m.deep, .slice At nt ct, .slice As ns cs] : Array Value)[o]? := (hk.blk QD.out.st.e.tre QD.out.st.e.prs QD.out.st.b0 (by decide) (by decide)).cells; have y1 : ∀ o, w'.cell? ⟨w.heap.size + 1, o, none⟩ = (#[.int .i64 c.f, .int .i64 c.depth, .int .i64 c.r0, .int .i64 c.r1, .int .i64 c.r2, .int .i64 c.r3, .slice Ad nd cd, .int .i64 2, .int .i64 (reg c a), .bool c.leaving, .bool c.deferred, .bool c.panicking, .int .i64 c.panic, .bool c.recovered, .int .i64 c.outer] : Array Value)[o]? := (hk.blk QD.out.st.e.tre QD.out.st.e.prs QD.out.st.b1 (by decide) (by decide)).cells; have Y3 := hid (hk.blk QD.out.st.e.tre QD.out.st.e.prs QD.out.b3 (by decide) (by decide)); have Y4 := hid (hk.blk QD.out.st.e.tre QD.out.st.e.prs QD.out.b4 (by decide) (by decide)); have y3 : ∀ o, w'.cell? ⟨w.heap.size + 1 + 1 + 1, o, none⟩ = (#[.slice none 0 0, .int .i64 0, .bool false, .int .i64 0, .int .i64 0, .int .i64 0, .slice none 0 0, .slice none 0 0] : Array Value)[o]? := Y3.out.cells; have y4 : ∀ o, w'.cell? ⟨w.heap.size + 1 + 1 + 1 + 1, o, none⟩ = (#[.int .i64 0, .int .i64 0, .int .i64 0, .int .i64 0, .int .i64 0, .int .i64 0, .slice none 0 0, .int .i64 0, .int .i64 0, .bool false, .bool false, .bool false, .int .i64 0, .bool false, .int .i64 0] : Array Value)[o]? := Y4.out.cells; have f3 := Y3.out.frozen; have f4 := Y4.out.frozen; have HK := hid (QD.out.st.e.call hk); clear hk t1 t2 t3 s0 s1 s0' s1'))
 change (fun V => Exit.then _ _ _ _ V) _
 refine gen_world (X := fun V => Lef w lo (.slice At nt ct) (.slice As ns cs) (.slice A2 n2 c2) (.slice As ns cs) (.slice Ad nd cd) (tell m 5 c.f (reg c a)) ({ c with kind := 2, value := reg c a }) V ∧ Blk V (w.heap.size + 1 + 1 + 1) 151 (mcells (.slice Ap np cp) fuel (tell m 5 c.f (reg c a)) (.slice A2 n2 c2) (.slice As ns cs)) ∧ Blk V (w.heap.size + 1 + 1 + 1 + 1) 154 (fcells ({ c with kind := 2, value := reg c a }) (.slice Ad nd cd))) ?_ ?_
 ·have o := outs (vp := .slice Ap np cp) (fuel := fuel) HK.out Y3.out Y4.out (by omega) (by omega) (by omega)
  exact o
 intro V hV
 obtain ⟨v0, v1, v2⟩ := hV
 have V0 := hid v0
 have V1 := v1.cells
 have V2 := v2.cells
 clear v0 v1 v2 y0 y1 y3 y4 f3 f4
 unfold mcells at V1
 unfold fcells at V2
 try dsimp only at V2
 go_wp2_with fail
 exact bodyPost_ret (v := .tuple #[mval (.slice Ap np cp) fuel (tell m 5 c.f (reg c a)) (.slice A2 n2 c2) (.slice As ns cs), fval ({ c with kind := 2, value := reg c a }) (.slice Ad nd cd), .int .i64 (-1)]) (by simp [results, Try.results125, go_sem, V1, V2, mval, fval]) rfl ⟨_, _, _, by rw [HE.out], by rw [HE.out]; exact V0.out⟩
end Go.Proofs.Ythejnpignlhgiaa.Smk6

namespace Go.Proofs.Ythejnpignlhgiaa.Smk11
open Lib (hid)
open Go.ChangeShapes Go.WideShapes Go.ChangeAt Go.RowKit
open PL Mem Srun Sst Ssim
open Smk
set_option maxRecDepth 100000 in
set_option maxHeartbeats 4000000 in
theorem make_11 (lo : Nat) (vp tv sv dv : Value) (fuel : Int) (m : M) (c : Fr) (pl a b : Int) (n K : Int) (inner : PL.Call) (hm : WfM fuel K m) (hK : K ≤ 10000) (hc : WfF n c) (hp : 0 ≤ pl ∧ pl ≤ 8) (w : World) (he : Lef w lo tv sv tv sv dv m c w) (hlo : lo ≤ w.heap.size) (hvp : ∃ A n c, vp = .slice A n c) (hb : 0 ≤ b ∧ b ≤ 3) (ha : 0 ≤ a ∧ a ≤ 8) :
  Calls Try.prog 125 #[mval vp fuel m tv sv, fval c dv, .int .i64 pl, .agg #[.int .i64 11, .int .i64 a, .int .i64 b]] w fun e w' => Ret3 w lo vp tv sv fuel (mk inner m c pl (11, a, b)) e w' := by
 obtain ⟨Ap, np, cp, rfl⟩ := hvp
 obtain ⟨As, ns, cs, rfl⟩ := prs_slice he.prs
 obtain ⟨Ad, nd, cd, rfl⟩ := prs_slice he.dfs
 obtain ⟨At, nt, ct, rfl⟩ := tre_slice he.tre
 have hE := hid he
 have hlen : m.trace.length ≤ 100000 := by have := hm.pot; have := hm.made1; omega
 clear he
 obtain ⟨r, hr⟩ : ∃ r, mk inner m c pl (11, a, b) = r := ⟨_, rfl⟩
 have HR := hid hr
 rw [hr]
 have HM := hid hm
 have HC := hid hc
 clear hr hm hc
 unfold mval fval
 go_enter Try.func125, Try.ntmps125
 go_upto_block 0 with fail
 change (fun W => Code.wp _ _ _ _ W) _
 refine gen_world (X := BegS w lo (.slice Ap np cp) (.slice At nt ct) (.slice As ns cs) (.slice At nt ct) (.slice As ns cs) (.slice Ad nd cd) fuel m c (11, a, b))
  ⟨⟨⟨((((hE.out.alloc _).alloc _).alloc _).alloc _).alloc _, heap5_0 w _ _ _ _ _, heap5_1 w _ _ _ _ _, Nat.le_refl _, Nat.le_succ _⟩, heap5_3 w _ _ _ _ _, heap5_4 w _ _ _ _ _⟩, heap5_2 w _ _ _ _ _⟩ ?_
 intro W HX
 have X := hid HX.1
 have z2 := HX.2.cells
 clear HX
 obtain ⟨hb0, hb3⟩ := hb
 have hb4 : b < 4 := by omega
 clear hb3
 have zb := (X.out.st.b1.cells (2 + b.toNat)).trans (fcells_reg c _ b hb0 hb4)
 by_cases hj : 0 < reg c b
 ·have HE : Hid (r = (m, c, a)) := hid (by rw [← HR.out]; simp [mk, hj])
  have Q := X
  go_upto_region 20 with fail
  clear zb
  have z0 := Q.out.st.b0.cells
  have z1 := Q.out.st.b1.cells
  have z3 := Q.out.b3.cells
  have z4 := Q.out.b4.cells
  have f3 := Q.out.b3.frozen
  have f4 := Q.out.b4.frozen
  unfold mcells at z0
  unfold fcells at z1
  unfold mz at z3
  unfold fz at z4
  try dsimp only at z1
  go_wp2_with fail
  go_region
  change (fun V => Exit.then _ _ _ _ V) _
  refine gen_world (X := fun V => Lef w lo (.slice At nt ct) (.slice As ns cs) (.slice At nt ct) (.slice As ns cs) (.slice Ad nd cd) (m) (c) V ∧ Blk V (w.heap.size + 1 + 1 + 1) 151 (mcells (.slice Ap np cp) fuel (m) (.slice At nt ct) (.slice As ns cs)) ∧ Blk V (w.heap.size + 1 + 1 + 1 + 1) 154 (fcells (c) (.slice Ad nd cd))) ?_ ?_
  ·have o := outs (vp := .slice Ap np cp) (fuel := fuel) Q.out.st.e Q.out.b3 Q.out.b4 (by omega) (by omega) (by omega)
   exact ⟨o.1.drew, blk_drew o.2.1, blk_drew o.2.2⟩
  intro V hV
  obtain ⟨v0, v1, v2⟩ := hV
  have V0 := hid v0
  have V1 := v1.cells
  have V2 := v2.cells
  clear v0 v1 v2 z0 z1 z3 z4 f3 f4
  unfold mcells at V1
  unfold fcells at V2
  try dsimp only at V2
  go_wp2_with fail
  exact bodyPost_ret (v := .tuple #[mval (.slice Ap np cp) fuel (m) (.slice At nt ct) (.slice As ns cs), fval (c) (.slice Ad nd cd), .int .i64 (a)]) (by simp [results, Try.results125, go_sem, V1, V2, mval, fval]) rfl ⟨_, _, _, by rw [HE.out], by rw [HE.out]; exact V0.out⟩
 ·have HE : Hid (r = (m, c, pl + 1)) := hid (by rw [← HR.out]; simp [mk, show ¬ 0 < reg c b from hj])
  have Q := X
  go_upto_region 21 with fail
  clear zb
  have z0 := Q.out.st.b0.cells
  have z1 := Q.out.st.b1.cells
  have z3 := Q.out.b3.cells
  have z4 := Q.out.b4.cells
  have f3 := Q.out.b3.frozen
  have f4 := Q.out.b4.frozen
  unfold mcells at z0
  unfold fcells at z1
  unfold mz at z3
  unfold fz at z4
  try dsimp only at z1
  go_wp2_with fail
  go_region
  change (fun V => Exit.then _ _ _ _ V) _
  refine gen_world (X := fun V => Lef w lo (.slice At nt ct) (.slice As ns cs) (.slice At nt ct) (.slice As ns cs) (.slice Ad nd cd) (m) (c) V ∧ Blk V (w.heap.size + 1 + 1 + 1) 151 (mcells (.slice Ap np cp) fuel (m) (.slice At nt ct) (.slice As ns cs)) ∧ Blk V (w.heap.size + 1 + 1 + 1 + 1) 154 (fcells (c) (.slice Ad nd cd))) ?_ ?_
  ·have o := outs (vp := .slice Ap np cp) (fuel := fuel) Q.out.st.e Q.out.b3 Q.out.b4 (by omega) (by omega) (by omega)
   exact ⟨o.1.drew, blk_drew o.2.1, blk_drew o.2.2⟩
  intro V hV
  obtain ⟨v0, v1, v2⟩ := hV
  have V0 := hid v0
  have V1 := v1.cells
  have V2 := v2.cells
  clear v0 v1 v2 z0 z1 z3 z4 f3 f4
  unfold mcells at V1
  unfold fcells at V2
  try dsimp only at V2
  go_wp2_with fail
  exact bodyPost_ret (v := .tuple #[mval (.slice Ap np cp) fuel (m) (.slice At nt ct) (.slice As ns cs), fval (c) (.slice Ad nd cd), .int .i64 (pl + 1)]) (by simp [results, Try.results125, go_sem, V1, V2, mval, fval]) rfl ⟨_, _, _, by rw [HE.out], by rw [HE.out]; exact V0.out⟩
end Go.Proofs.Ythejnpignlhgiaa.Smk11
