import Derived.Test.YthejnpignlhgiaaSinn1
import Derived.Test.YthejnpignlhgiaaSinnT
import Derived.Test.YthejnpignlhgiaaSinnF
set_option linter.all false
namespace Go.Proofs.Ythejnpignlhgiaa.Sinn
open Go.ChangeShapes Go.WideShapes Go.ChangeAt Go.RowKit
open PL Mem Srun Sst Ssim
open Smk
theorem inner_any (lo : Nat) (tv sv dv : Value) (fuel : Int) (m : M) (c : Fr) (k pl a b : Int) (K : Int) (inner : PL.Call) (p : Pg) (Ap : Option Addr) (np cp : Nat) (D N : Int) (hm : WfM fuel K m) (hK : K ≤ 9000) (hc : WfF N c) (hp : 0 ≤ pl ∧ pl ≤ 8) (w : World) (he : Lef w lo tv sv tv sv dv m c w) (hlo : lo ≤ w.heap.size) (hrd : RdP w lo Ap p) (hsp0 : m.spent = false) (hok : CallOkN lo Ap np cp p fuel N (D + 1) inner) (hD : c.depth = D) (hD0 : 1 ≤ D ∧ D ≤ 8) (hb : 0 ≤ b ∧ b ≤ 3) (ha : 0 ≤ a ∧ a < N) :
  Calls Try.prog 134 #[mval (.slice Ap np cp) fuel m tv sv, fval c dv, .int .i64 pl, .agg #[.int .i64 k, .int .i64 a, .int .i64 b]] w fun e w' => Ret3 w lo (.slice Ap np cp) tv sv fuel (mkCall (inner m (newFrame a (c.depth + 1) (reg c b))) c pl) e w' := by
 by_cases h1 : (inner m (newFrame a (c.depth + 1) (reg c b))).2.kind = 1
 ·exact Sinn1.inner_1 lo tv sv dv fuel m c k pl a b K inner p Ap np cp D N hm hK hc hp w he hlo hrd hsp0 hok hD hD0 hb ha h1
 ·by_cases h2 : c.leaving = true
  ·exact SinnT.inner_t lo tv sv dv fuel m c k pl a b K inner p Ap np cp D N hm hK hc hp w he hlo hrd hsp0 hok hD hD0 hb ha h1 h2
  ·exact SinnF.inner_f lo tv sv dv fuel m c k pl a b K inner p Ap np cp D N hm hK hc hp w he hlo hrd hsp0 hok hD hD0 hb ha h1 (by simpa using h2)
end Go.Proofs.Ythejnpignlhgiaa.Sinn

namespace Go.Proofs.Ythejnpignlhgiaa.Smk4
open Lib (hid)
open Go.ChangeShapes Go.WideShapes Go.ChangeAt Go.RowKit
open PL Mem Srun Sst Ssim
open Smk
set_option maxRecDepth 100000 in
set_option maxHeartbeats 4000000 in
theorem make_4 (lo : Nat) (tv sv dv : Value) (fuel : Int) (m : M) (c : Fr) (pl a b : Int) (K : Int) (inner : PL.Call) (p : Pg) (Ap : Option Addr) (np cp : Nat) (D N : Int) (hm : WfM fuel K m) (hK : K ≤ 9000) (hc : WfF N c) (hp : 0 ≤ pl ∧ pl ≤ 8) (w : World) (he : Lef w lo tv sv tv sv dv m c w) (hlo : lo ≤ w.heap.size) (hrd : RdP w lo Ap p) (hsp0 : m.spent = false) (hok : CallOkN lo Ap np cp p fuel N (D + 1) inner) (hD : c.depth = D) (hD0 : 1 ≤ D ∧ D ≤ 8) (hb : 0 ≤ b ∧ b ≤ 3) (ha : 0 ≤ a ∧ a < N) :
  Calls Try.prog 125 #[mval (.slice Ap np cp) fuel m tv sv, fval c dv, .int .i64 pl, .agg #[.int .i64 4, .int .i64 a, .int .i64 b]] w fun e w' => Ret3 w lo (.slice Ap np cp) tv sv fuel (mk inner m c pl (4, a, b)) e w' := by
 have hd1 : 1 ≤ c.depth := by omega
 have hd2 : c.depth ≤ 8 := by omega
 have HD := hid (show c.depth = D ∧ (1 ≤ D ∧ D ≤ 8) from ⟨hD, hD0⟩)
 clear hD hD0
 obtain ⟨As, ns, cs, rfl⟩ := prs_slice he.prs
 obtain ⟨Ad, nd, cd, rfl⟩ := prs_slice he.dfs
 obtain ⟨At, nt, ct, rfl⟩ := tre_slice he.tre
 have hE := hid he
 have hlen : m.trace.length ≤ 100000 := by have := hm.pot; have := hm.made1; omega
 clear he
 obtain ⟨r, hr⟩ : ∃ r, mk inner m c pl (4, a, b) = r := ⟨_, rfl⟩
 have HR := hid hr
 rw [hr]
 have HM := hid hm
 have HC := hid hc
 have HRD := hid hrd
 have OK := hid hok
 have HSP0 := hid hsp0
 clear hr hm hc hrd hok hsp0
 unfold mval fval
 go_enter Try.func125, Try.ntmps125
 go_upto_block 0 with fail
 change (fun W => Code.wp _ _ _ _ W) _
 refine gen_world (X := BegS w lo (.slice Ap np cp) (.slice At nt ct) (.slice As ns cs) (.slice At nt ct) (.slice As ns cs) (.slice Ad nd cd) fuel m c (4, a, b))
  ⟨⟨⟨((((hE.out.alloc _).alloc _).alloc _).alloc _).alloc _, heap5_0 w _ _ _ _ _, heap5_1 w _ _ _ _ _, Nat.le_refl _, Nat.le_succ _⟩, heap5_3 w _ _ _ _ _, heap5_4 w _ _ _ _ _⟩, heap5_2 w _ _ _ _ _⟩ ?_
 intro W HX
 have X := hid HX.1
 have z2 := HX.2.cells
 clear HX
 have hs := hid (Sinn.inner_any lo (.slice At nt ct) (.slice As ns cs) (.slice Ad nd cd) fuel m c 4 pl a b K inner p Ap np cp D N HM.out hK HC.out hp W ⟨X.out.st.e.tre, X.out.st.e.prs, X.out.st.e.dfs, Chg.refl _ _, fun _ h => .inl h, fun _ h => .inl h, X.out.st.e.fd⟩ (Nat.le_trans hlo X.out.st.e.chg.size) (lef_rd X.out.st.e hE.out hlo HRD.out) HSP0.out OK.out HD.out.1 HD.out.2 hb ha)
 have HE : Hid (r = mkCall (inner m (newFrame a (c.depth + 1) (reg c b))) c pl) := hid (by rw [← HR.out]; simp [mk])
 generalize mkCall (inner m (newFrame a (c.depth + 1) (reg c b))) c pl = q at *
 obtain ⟨m', c', at'⟩ := q
 unfold Ret3 mval fval at hs
 dsimp only at hs
 have z0 : ∀ o, W.cell? ⟨w.heap.size, o, none⟩ = (#[.slice Ap np cp, .int .i64 fuel, .bool m.spent, .int .i64 m.shared, .int .i64 m.made, .int .i64 m.deep, .slice At nt ct, .slice As ns cs] : Array Value)[o]? := X.out.st.b0.cells
 have z1 : ∀ o, W.cell? ⟨w.heap.size + 1, o, none⟩ = (#[.int .i64 c.f, .int .i64 c.depth, .int .i64 c.r0, .int .i64 c.r1, .int .i64 c.r2, .int .i64 c.r3, .slice Ad nd cd, .int .i64 c.kind, .int .i64 c.value, .bool c.leaving, .bool c.deferred, .bool c.panicking, .int .i64 c.panic, .bool c.recovered, .int .i64 c.outer] : Array Value)[o]? := X.out.st.b1.cells
 clear hb ha hp hd1 hd2
 go_upto_region 3 with fail
 go_wp2_with fail
 refine hs.out.mono ?_
 rintro e w' ⟨tv', sv', dv', rfl, hk⟩
 obtain ⟨A2, n2, c2, rfl⟩ := tre_slice hk.tre
 obtain ⟨A3, n3, c3, rfl⟩ := prs_slice hk.prs
 obtain ⟨A4, n4', c4, rfl⟩ := prs_slice hk.dfs
 have Y3 := hid (hk.blk X.out.st.e.tre X.out.st.e.prs X.out.b3 (by decide) (by decide))
 have Y4 := hid (hk.blk X.out.st.e.tre X.out.st.e.prs X.out.b4 (by decide) (by decide))
 have y3 : ∀ o, w'.cell? ⟨w.heap.size + 1 + 1 + 1, o, none⟩ = (#[.slice none 0 0, .int .i64 0, .bool false, .int .i64 0, .int .i64 0, .int .i64 0, .slice none 0 0, .slice none 0 0] : Array Value)[o]? := Y3.out.cells
 have y4 : ∀ o, w'.cell? ⟨w.heap.size + 1 + 1 + 1 + 1, o, none⟩ = (#[.int .i64 0, .int .i64 0, .int .i64 0, .int .i64 0, .int .i64 0, .int .i64 0, .slice none 0 0, .int .i64 0, .int .i64 0, .bool false, .bool false, .bool false, .int .i64 0, .bool false, .int .i64 0] : Array Value)[o]? := Y4.out.cells
 have f3 := Y3.out.frozen
 have f4 := Y4.out.frozen
 have HK := hid (X.out.st.e.trans hk)
 have y0 := 0
 have y1 := 0
 clear hk z0 z1 z2 hs
 try dsimp only
 go_upto_block 1 with fail
 change (fun V => bodyPost _ _ _ _ _ V) _
 refine gen_world (X := fun V => Lef w lo (.slice At nt ct) (.slice As ns cs) (.slice A2 n2 c2) (.slice A3 n3 c3) (.slice A4 n4' c4) (m') (c') V ∧ Blk V (w.heap.size + 1 + 1 + 1) 151 (mcells (.slice Ap np cp) fuel (m') (.slice A2 n2 c2) (.slice A3 n3 c3)) ∧ Blk V (w.heap.size + 1 + 1 + 1 + 1) 154 (fcells (c') (.slice A4 n4' c4))) ?_ ?_
 ·have o := outs (vp := .slice Ap np cp) (fuel := fuel) HK.out Y3.out Y4.out (by omega) (by omega) (by omega)
  exact o
 intro V hV
 obtain ⟨v0, v1, v2⟩ := hV
 have V0 := hid v0
 have V1 := v1.cells
 have V2 := v2.cells
 clear v0 v1 v2 y0 y1 y3 y4 f3 f4
 unfold mcells at V1
 unfold fcells at V2
 skip
 exact bodyPost_ret (v := .tuple #[mval (.slice Ap np cp) fuel (m') (.slice A2 n2 c2) (.slice A3 n3 c3), fval (c') (.slice A4 n4' c4), .int .i64 (at')]) (by simp [results, Try.results125, go_sem, V1, V2, mval, fval]) rfl ⟨_, _, _, by rw [HE.out], by rw [HE.out]; exact V0.out⟩
end Go.Proofs.Ythejnpignlhgiaa.Smk4
