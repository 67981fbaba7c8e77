import Derived.Test.YthejnpignlhgiaaM4
set_option linter.all false
namespace Go.Proofs.Ythejnpignlhgiaa.Smko
open Lib (hid)
open Go.ChangeShapes Go.WideShapes Go.ChangeAt Go.RowKit
open PL Mem Srun Sst Ssim
open Smk
set_option maxRecDepth 100000 in
set_option maxHeartbeats 4000000 in
theorem make_o (lo : Nat) (vp tv sv dv : Value) (fuel : Int) (m : M) (c : Fr) (pl a b : Int) (n K : Int) (inner : PL.Call) (hm : WfM fuel K m) (hK : K ≤ 10000) (hc : WfF n c) (hp : 0 ≤ pl ∧ pl ≤ 8) (w : World) (he : Lef w lo tv sv tv sv dv m c w) (hlo : lo ≤ w.heap.size) (hvp : ∃ A n c, vp = .slice A n c) (k : Int) (hk : k = 1 ∨ k = 2 ∨ k = 3 ∨ k = 7 ∨ k = 9 ∨ k = 12 ∨ k = 13) (ha : 0 ≤ a ∧ a ≤ 3) (hb : k = 2 → 0 ≤ b ∧ b ≤ 3) :
  Calls Try.prog 125 #[mval vp fuel m tv sv, fval c dv, .int .i64 pl, .agg #[.int .i64 k, .int .i64 a, .int .i64 b]] w fun e w' => Ret3 w lo vp tv sv fuel (mk inner m c pl (k, a, b)) e w' := by
 obtain ⟨Ap, np, cp, rfl⟩ := hvp
 obtain ⟨As, ns, cs, rfl⟩ := prs_slice he.prs
 obtain ⟨Ad, nd, cd, rfl⟩ := prs_slice he.dfs
 obtain ⟨At, nt, ct, rfl⟩ := tre_slice he.tre
 have hE := hid he
 have hlen : m.trace.length ≤ 100000 := by have := hm.pot; have := hm.made1; omega
 clear he
 obtain ⟨r, hr⟩ : ∃ r, mk inner m c pl (k, a, b) = r := ⟨_, rfl⟩
 have HR := hid hr
 rw [hr]
 have HM := hid hm
 have HC := hid hc
 clear hr hm hc
 unfold mval fval
 go_enter Try.func125, Try.ntmps125
 go_upto_block 0 with fail
 change (fun W => Code.wp _ _ _ _ W) _
 refine gen_world (X := BegS w lo (.slice Ap np cp) (.slice At nt ct) (.slice As ns cs) (.slice At nt ct) (.slice As ns cs) (.slice Ad nd cd) fuel m c (k, a, b))
  ⟨⟨⟨((((hE.out.alloc _).alloc _).alloc _).alloc _).alloc _, heap5_0 w _ _ _ _ _, heap5_1 w _ _ _ _ _, Nat.le_refl _, Nat.le_succ _⟩, heap5_3 w _ _ _ _ _, heap5_4 w _ _ _ _ _⟩, heap5_2 w _ _ _ _ _⟩ ?_
 intro W HX
 have X := hid HX.1
 have z2 := HX.2.cells
 clear HX
 have hs := hid (fun (V : World) (e : Lef V lo (.slice At nt ct) (.slice As ns cs) (.slice At nt ct) (.slice As ns cs) (.slice Ad nd cd) m c V) (h : lo ≤ V.heap.size) => simple_any lo (.slice Ap np cp) (.slice At nt ct) (.slice As ns cs) (.slice Ad nd cd) fuel m c k a b n K hk ha hb HM.out hK HC.out V e h ⟨_, _, _, rfl⟩)
 have hne : Hid (k ≠ 4 ∧ k ≠ 5 ∧ k ≠ 6 ∧ k ≠ 8 ∧ k ≠ 10 ∧ k ≠ 11) := hid (by omega)
 have HE : Hid (r = ((simple m c (k, a, b)).1, (simple m c (k, a, b)).2, pl + 1)) := hid (by
  obtain ⟨e4, e5, e6, e8, e10, e11⟩ := hne.out
  rw [← HR.out]; simp [mk, e4, e5, e6, e8, e10, e11])
 generalize simple m c (k, a, b) = q at *
 obtain ⟨m', c'⟩ := q
 dsimp only at hs HE
 unfold Ret mval fval at hs
 have n4 : (k == 4) = false := by have := hne.out; simp; omega
 have n5 : (k == 5) = false := by have := hne.out; simp; omega
 have n6 : (k == 6) = false := by have := hne.out; simp; omega
 have n8 : (k == 8) = false := by have := hne.out; simp; omega
 have n10 : (k == 10) = false := by have := hne.out; simp; omega
 have n11 : (k == 11) = false := by have := hne.out; simp; omega
 have z0 : ∀ o, W.cell? ⟨w.heap.size, o, none⟩ = (#[.slice Ap np cp, .int .i64 fuel, .bool m.spent, .int .i64 m.shared, .int .i64 m.made, .int .i64 m.deep, .slice At nt ct, .slice As ns cs] : Array Value)[o]? := X.out.st.b0.cells
 have z1 : ∀ o, W.cell? ⟨w.heap.size + 1, o, none⟩ = (#[.int .i64 c.f, .int .i64 c.depth, .int .i64 c.r0, .int .i64 c.r1, .int .i64 c.r2, .int .i64 c.r3, .slice Ad nd cd, .int .i64 c.kind, .int .i64 c.value, .bool c.leaving, .bool c.deferred, .bool c.panicking, .int .i64 c.panic, .bool c.recovered, .int .i64 c.outer] : Array Value)[o]? := X.out.st.b1.cells
 clear hk ha hb
 go_wp2_with fail
 refine (hs.out W ⟨X.out.st.e.tre, X.out.st.e.prs, X.out.st.e.dfs, Chg.refl _ _, fun _ h => .inl h, fun _ h => .inl h, X.out.st.e.fd⟩ (Nat.le_trans hlo X.out.st.e.chg.size)).mono ?_
 rintro e w' ⟨tv', sv', dv', rfl, hk⟩
 obtain ⟨A2, n2, c2, rfl⟩ := tre_slice hk.tre
 obtain ⟨A3, n3, c3, rfl⟩ := prs_slice hk.prs
 obtain ⟨A4, n4', c4, rfl⟩ := prs_slice hk.dfs
 have Y0 := hid (hk.blk X.out.st.e.tre X.out.st.e.prs X.out.st.b0 (by decide) (by decide))
 have Y1 := hid (hk.blk X.out.st.e.tre X.out.st.e.prs X.out.st.b1 (by decide) (by decide))
 have Y3 := hid (hk.blk X.out.st.e.tre X.out.st.e.prs X.out.b3 (by decide) (by decide))
 have Y4 := hid (hk.blk X.out.st.e.tre X.out.st.e.prs X.out.b4 (by decide) (by decide))
 have y0 : ∀ o, w'.cell? ⟨w.heap.size, o, none⟩ = (#[.slice Ap np cp, .int .i64 fuel, .bool m.spent, .int .i64 m.shared, .int .i64 m.made, .int .i64 m.deep, .slice At nt ct, .slice As ns cs] : Array Value)[o]? := Y0.out.cells
 have y1 : ∀ o, w'.cell? ⟨w.heap.size + 1, o, none⟩ = (#[.int .i64 c.f, .int .i64 c.depth, .int .i64 c.r0, .int .i64 c.r1, .int .i64 c.r2, .int .i64 c.r3, .slice Ad nd cd, .int .i64 c.kind, .int .i64 c.value, .bool c.leaving, .bool c.deferred, .bool c.panicking, .int .i64 c.panic, .bool c.recovered, .int .i64 c.outer] : Array Value)[o]? := Y1.out.cells
 have f0 := Y0.out.frozen
 have f1 := Y1.out.frozen
 have HK := hid (X.out.st.e.trans hk)
 clear hk z0 z1 z2
 try dsimp only
 go_upto_region 23 with fail
 change (fun V => Code.wp _ _ _ _ V) _
 refine gen_world (X := Beg w lo (.slice Ap np cp) (.slice At nt ct) (.slice As ns cs) (.slice A2 n2 c2) (.slice A3 n3 c3) (.slice A4 n4' c4) fuel m' c') ?_ ?_
 ·have o := outs2 (vp := .slice Ap np cp) (fuel := fuel) HK.out Y0.out Y1.out (by omega) (by omega) (by omega)
  refine ⟨⟨o.1, o.2.1, o.2.2, by omega, by omega⟩, ?_, ?_⟩
  ·iterate 15 refine Blk.far ?_ _ _ (by show w.heap.size + 1 + 1 + 1 ≠ w.heap.size + 1; omega)
   iterate 8 refine Blk.far ?_ _ _ (by show w.heap.size + 1 + 1 + 1 ≠ w.heap.size; omega)
   exact Y3.out
  ·iterate 15 refine Blk.far ?_ _ _ (by show w.heap.size + 1 + 1 + 1 + 1 ≠ w.heap.size + 1; omega)
   iterate 8 refine Blk.far ?_ _ _ (by show w.heap.size + 1 + 1 + 1 + 1 ≠ w.heap.size; omega)
   exact Y4.out
 intro W2 Q0
 have Q := hid Q0
 clear Q0 y0 y1 f0 f1 hs
 have z0 := Q.out.st.b0.cells
 have z1 := Q.out.st.b1.cells
 have z3 := Q.out.b3.cells
 have z4 := Q.out.b4.cells
 have f3 := Q.out.b3.frozen
 have f4 := Q.out.b4.frozen
 unfold mcells at z0
 unfold fcells at z1
 unfold mz at z3
 unfold fz at z4
 try dsimp only at z1
 go_wp2_with fail
 go_region
 change (fun V => Exit.then _ _ _ _ V) _
 refine gen_world (X := fun V => Lef w lo (.slice At nt ct) (.slice As ns cs) (.slice A2 n2 c2) (.slice A3 n3 c3) ((.slice A4 n4' c4)) (m') (c') V ∧ Blk V (w.heap.size + 1 + 1 + 1) 151 (mcells (.slice Ap np cp) fuel (m') (.slice A2 n2 c2) (.slice A3 n3 c3)) ∧ Blk V (w.heap.size + 1 + 1 + 1 + 1) 154 (fcells (c') ((.slice A4 n4' c4)))) ?_ ?_
 ·have o := outs (vp := .slice Ap np cp) (fuel := fuel) Q.out.st.e Q.out.b3 Q.out.b4 (by omega) (by omega) (by omega)
  exact ⟨o.1.drew, blk_drew o.2.1, blk_drew o.2.2⟩
 intro V hV
 obtain ⟨v0, v1, v2⟩ := hV
 have V0 := hid v0
 have V1 := v1.cells
 have V2 := v2.cells
 clear v0 v1 v2 z0 z1 z3 z4 f3 f4
 unfold mcells at V1
 unfold fcells at V2
 try dsimp only at V2
 go_wp2_with fail
 exact bodyPost_ret (v := .tuple #[mval (.slice Ap np cp) fuel (m') (.slice A2 n2 c2) (.slice A3 n3 c3), fval (c') ((.slice A4 n4' c4)), .int .i64 (pl + 1)]) (by simp [results, Try.results125, go_sem, V1, V2, mval, fval]) rfl ⟨_, _, _, by rw [HE.out], by rw [HE.out]; exact V0.out⟩
end Go.Proofs.Ythejnpignlhgiaa.Smko
-- squeezed
