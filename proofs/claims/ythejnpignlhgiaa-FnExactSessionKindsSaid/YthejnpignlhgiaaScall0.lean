import Derived.Test.YthejnpignlhgiaaM4
import Derived.Test.YthejnpignlhgiaaM3
import Derived.Test.YthejnpignlhgiaaM8
set_option linter.all false
namespace Go.Proofs.Ythejnpignlhgiaa.Scall0
open Go.ChangeShapes Go.WideShapes Go.ChangeAt Go.RowKit
open PL Mem Srun Sst Ssim
open Smk Slast0
theorem BegL.put0 {w W : World} {lo : Nat} {vp tv0 sv0 tv sv dv : Value} {fuel : Int} {m m' : M} {c : Fr} (h : BegL w lo vp tv0 sv0 tv sv dv fuel m c W) (j : Nat) (u : Value) (hs : (mcells vp fuel m tv sv).setIfInBounds j u = mcells vp fuel m' tv sv) (h1 : m'.trace = m.trace) (h2 : m'.seen = m.seen) :
  BegL w lo vp tv0 sv0 tv sv dv fuel m' c (W.setCell ⟨w.heap.size, j, none⟩ u) :=
 ⟨h.st.put0 j u hs h1 h2, h.b2.far _ _ (by show w.heap.size + 1 + 1 ≠ w.heap.size; omega), h.b3.far _ _ (by show w.heap.size + 1 + 1 + 1 ≠ w.heap.size; omega)⟩
set_option maxRecDepth 100000 in
set_option maxHeartbeats 4000000 in
theorem call_deep (lo : Nat) (Ap : Option Addr) (np cp : Nat) (p : Pg) (fuel N : Int) : CallOkN lo Ap np cp p fuel N 9 (fun m c => ({ m with spent := true }, c)) := by
 intro K m c tv sv w hm hK hc hD hds hrd he hlo hsp0
 obtain ⟨As, ns, cs, rfl⟩ := prs_slice he.prs
 obtain ⟨At, nt, ct, rfl⟩ := tre_slice he.tre
 have hE := Lib.hid he
 have HD := Lib.hid hD
 clear he hm hK hc hD hds hrd hsp0
 unfold mval fval
 go_enter Try.func111, Try.ntmps111
 go_upto_region 1 with fail
 change (fun W => Code.wp _ _ _ _ W) _
 refine gen_world (X := fun V => BegL w lo (.slice Ap np cp) (.slice At nt ct) (.slice As ns cs) (.slice At nt ct) (.slice As ns cs) (.slice none 0 0) fuel m c V)
  ⟨⟨(((hE.out.alloc _).alloc _).alloc _).alloc _, heap4_0 w _ _ _ _, heap4_1 w _ _ _ _, Nat.le_refl _, Nat.le_succ _⟩, heap4_2 w _ _ _ _, heap4_3 w _ _ _ _⟩ ?_
 intro W HX
 have X := Lib.hid HX
 clear HX
 have y1 : W.cell? ⟨w.heap.size + 1, 1, none⟩ = some (.int .i64 9) := (X.out.st.b1.cells 1).trans (congrArg (fun x => some (Value.int .i64 x)) HD.out)
 have y2 : W.cell? ⟨w.heap.size, 2, none⟩ = some (.bool m.spent) := X.out.st.b0.cells 2
 have f0 := X.out.st.b0.frozen
 have q := BegL.put0 X.out (m' := { m with spent := true }) 2 (.bool true) rfl rfl rfl
 have Q := Lib.hid q
 clear q
 go_upto_region 3 with fail
 clear y1 y2 f0 X
 generalize W.setCell ⟨w.heap.size, 2, none⟩ (.bool true) = W2 at *
 have QD := Lib.hid (BegL.drew Q.out)
 have f3 := Q.out.b2.frozen
 have f4 := Q.out.b3.frozen
 have z3 := Q.out.b2.cells
 have z4 := Q.out.b3.cells
 unfold mz at z3
 unfold fz at z4
 try go_wp2_with fail
 have S0 : (fun V : World => (∀ o, V.cell? ⟨w.heap.size, o, none⟩ = (mcells (.slice Ap np cp) fuel ({ m with spent := true }) (.slice At nt ct) (.slice As ns cs))[o]?) ∧ (∀ o, V.cell? ⟨w.heap.size + 1, o, none⟩ = (fcells (c) (.slice none 0 0))[o]?)) W2.drew := ⟨Q.out.st.b0.cells, Q.out.st.b1.cells⟩
 refine Last2.region_last [3] (fun V : World => (∀ o, V.cell? ⟨w.heap.size, o, none⟩ = (mcells (.slice Ap np cp) fuel ({ m with spent := true }) (.slice At nt ct) (.slice As ns cs))[o]?) ∧ (∀ o, V.cell? ⟨w.heap.size + 1, o, none⟩ = (fcells (c) (.slice none 0 0))[o]?)) (by kernel_rfl) ?_
 refine Last2.last_take (i := 0) (d := some 13) (v := ?v0) rfl rfl (by kernel_rfl) (by kernel_rfl) (by kernel_rfl) (fun _ _ _ h => h) rfl (by kernel_rfl) (by kernel_rfl) rfl ?y0 S0 ?r0
 case y0 => (intro V hV; unfold mcells fcells at hV; (try dsimp only at hV); go_simp; try with_reducible rfl)
 simp only [Act.put, List.setIfInBounds_toArray, List.set_cons_zero, List.set_cons_succ]
 refine Last2.last_take (i := 1) (d := some 14) (v := ?v1) rfl rfl (by kernel_rfl) (by kernel_rfl) (by kernel_rfl) (fun _ _ _ h => h) rfl (by kernel_rfl) (by kernel_rfl) rfl ?y1 S0 ?r1
 case y1 => (intro V hV; unfold mcells fcells at hV; (try dsimp only at hV); go_simp; try with_reducible rfl)
 simp only [Act.put, List.setIfInBounds_toArray, List.set_cons_zero, List.set_cons_succ]
 refine Last2.last_one (i := 2) (o := { dst := none, op := .store 151 (.tmp 4) (.tmp 13), type := 0, pos := _, after := _, guard := none }) (by kernel_rfl) rfl rfl (fun K hK => ?_)
 go_simp
 refine hK.out _ _ (fun _ => ⟨fun o => ?s0, fun o => ?s1⟩) ?r4
 case s0 =>
  refine Blk.cells (t := 151) (blk_drew ?_) o
  iterate 8 refine Blk.far ?_ _ _ (by show w.heap.size ≠ w.heap.size + 1 + 1; omega)
  exact Q.out.st.b0
 case s1 =>
  refine Blk.cells (t := 154) (blk_drew ?_) o
  iterate 8 refine Blk.far ?_ _ _ (by show w.heap.size + 1 ≠ w.heap.size + 1 + 1; omega)
  exact Q.out.st.b1
 clear hK K S0
 change (fun V => Last2.wpAnyL _ _ _ _ _ _ _ _ _ V) _
 refine gen_world (X := fun V => Lef w lo (.slice At nt ct) (.slice As ns cs) (.slice At nt ct) (.slice As ns cs) (.slice none 0 0) ({ m with spent := true }) (c) V ∧ Blk V (w.heap.size + 1 + 1) 151 (mcells (.slice Ap np cp) fuel ({ m with spent := true }) (.slice At nt ct) (.slice As ns cs)) ∧ Blk V (w.heap.size + 1 + 1 + 1) 154 fz) ?_ ?_
 ·have o := Sret.outsA (vp := .slice Ap np cp) (fuel := fuel) Q.out.st.e Q.out.b2 Q.out.b3 (by omega) (by omega)
  exact ⟨o.1.drew, blk_drew o.2.1, blk_drew o.2.2⟩
 clear QD z3 f3 z4 f4
 intro V hV
 have HV := Lib.hid hV
 have z4 := hV.2.2.cells
 have f4 := hV.2.2.frozen
 clear hV
 unfold fz at z4
 refine Last2.last_one (i := 3) (o := { dst := none, op := .store 154 (.tmp 5) (.tmp 14), type := 0, pos := _, after := _, guard := none }) (by kernel_rfl) rfl rfl (fun K hK => ?_)
 go_simp
 refine hK.out _ _ (fun h => (h (by decide)).elim) ?_
 clear hK K z4 f4
 refine Last2.last_done (by kernel_rfl) ?_ _
 first | change (fun V => Exit.then _ _ _ _ V) _ | change (fun V => bodyPost _ _ _ _ _ V) _ | change (fun V => Code.wp _ _ _ _ V) _
 refine gen_world (X := fun V => Lef w lo (.slice At nt ct) (.slice As ns cs) (.slice At nt ct) (.slice As ns cs) (.slice none 0 0) ({ m with spent := true }) (c) V ∧ Blk V (w.heap.size + 1 + 1) 151 (mcells (.slice Ap np cp) fuel ({ m with spent := true }) (.slice At nt ct) (.slice As ns cs)) ∧ Blk V (w.heap.size + 1 + 1 + 1) 154 (fcells (c) (.slice none 0 0))) ?_ ?_
 ·exact Sret.outsB (vp := .slice Ap np cp) (fuel := fuel) HV.out.1 HV.out.2.1 HV.out.2.2 (by omega) (by omega)
 clear HV
 intro V hV
 obtain ⟨v0, v1, v2⟩ := hV
 have V0 := Lib.hid v0
 have V1 := v1.cells
 have V2 := v2.cells
 clear v0 v1 v2
 unfold mcells at V1
 unfold fcells at V2
 try dsimp only at V1
 try dsimp only at V2
 go_wp2_with fail
 exact bodyPost_ret (v := .tuple #[mval (.slice Ap np cp) fuel ({ m with spent := true }) (.slice At nt ct) (.slice As ns cs), fval (c) (.slice none 0 0)]) (by simp [results, Try.results111, go_sem, V1, V2, mval, fval]) rfl ⟨_, _, _, rfl, V0.out⟩
end Go.Proofs.Ythejnpignlhgiaa.Scall0
-- squeezed
