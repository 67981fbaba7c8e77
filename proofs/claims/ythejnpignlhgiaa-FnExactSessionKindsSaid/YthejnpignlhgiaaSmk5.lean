import Derived.Test.YthejnpignlhgiaaM4
import Derived.Test.YthejnpignlhgiaaM3
import Derived.Deep.RegionHeld3
import Derived.Deep.DeepCutAuto
import Derived.IntWalk
set_option linter.all false
namespace Go.Proofs.Ythejnpignlhgiaa.Smk5
open Lib (hid)
open Go.ChangeShapes Go.WideShapes Go.ChangeAt Go.RowKit
open PL Mem Srun Sst Ssim
open Smk
set_option maxRecDepth 100000 in
set_option maxHeartbeats 8000000 in
theorem make_5 (lo : Nat) (vp tv sv dv : Value) (fuel : Int) (m : M) (c : Fr) (pl a b : Int) (n K : Int) (inner : PL.Call) (hm : WfM fuel K m) (hK : K ≤ 10000) (hc : WfF n c) (hp : 0 ≤ pl ∧ pl ≤ 8) (w : World) (he : Lef w lo tv sv tv sv dv m c w) (hlo : lo ≤ w.heap.size) (hvp : ∃ A n c, vp = .slice A n c) (hb : 0 ≤ b ∧ b ≤ 3) (hdn : c.defers.length ≤ 100000) :
  Calls Try.prog 125 #[mval vp fuel m tv sv, fval c dv, .int .i64 pl, .agg #[.int .i64 5, .int .i64 a, .int .i64 b]] w fun e w' => Ret3 w lo vp tv sv fuel (mk inner m c pl (5, a, b)) e w' := by
 obtain ⟨Ap, np, cp, rfl⟩ := hvp
 obtain ⟨As, ns, cs, rfl⟩ := prs_slice he.prs
 obtain ⟨Ad, nd, cd, rfl⟩ := prs_slice he.dfs
 obtain ⟨At, nt, ct, rfl⟩ := tre_slice he.tre
 have hE := hid he
 have hlen : m.trace.length ≤ 100000 := by have := hm.pot; have := hm.made1; omega
 clear he
 obtain ⟨r, hr⟩ : ∃ r, mk inner m c pl (5, a, b) = r := ⟨_, rfl⟩
 have HR := hid hr
 rw [hr]
 have HM := hid hm
 have HC := hid hc
 clear hr hm hc
 unfold mval fval
 go_enter Try.func125, Try.ntmps125
 go_upto_block 0 with fail
 change (fun W => Code.wp _ _ _ _ W) _
 refine gen_world (X := BegS w lo (.slice Ap np cp) (.slice At nt ct) (.slice As ns cs) (.slice At nt ct) (.slice As ns cs) (.slice Ad nd cd) fuel m c (5, a, b))
  ⟨⟨⟨((((hE.out.alloc _).alloc _).alloc _).alloc _).alloc _, heap5_0 w _ _ _ _ _, heap5_1 w _ _ _ _ _, Nat.le_refl _, Nat.le_succ _⟩, heap5_3 w _ _ _ _ _, heap5_4 w _ _ _ _ _⟩, heap5_2 w _ _ _ _ _⟩ ?_
 intro W HX
 have X := hid HX.1
 have z2 := HX.2.cells
 have B2 := hid HX.2
 clear HX
 obtain ⟨hb0, hb3⟩ := hb
 have hb4 : b < 4 := by omega
 clear hb3
 have HE : Hid (r = (tell m 2 a (reg c b), { c with defers := c.defers ++ [(a, reg c b)] }, pl + 1)) := hid (by rw [← HR.out]; simp [mk])
 obtain ⟨i0, hi, hz0, hz1, hz2⟩ := info_parts infoP2
 have hdl : c.defers.length ≤ 100000 := hdn
 have lt2 : w.heap.size + 1 + 1 < W.heap.size := B2.out.lt
 go_upto_region 5 with fail
 go_cut [] (fun wx => ∃ A5 n5 c5, Beg w lo (.slice Ap np cp) (.slice At nt ct) (.slice As ns cs) (.slice At nt ct) (.slice As ns cs) (.slice A5 n5 c5) fuel m { c with defers := c.defers ++ [(a, reg c b)] } wx ∧ Blk wx (w.heap.size + 1 + 1) 139 #[.int .i64 5, .int .i64 a, .int .i64 b])
 case first =>
  have hX := hid (fun (V : World) (h : App.Bl W V) => (show V.cell? ⟨w.heap.size + 1, 6, none⟩ = some (.slice Ad nd cd) ∧ V.cell? ⟨w.heap.size + 1 + 1, 1, none⟩ = some (.int .i64 a) ∧ V.cell? ⟨w.heap.size + 1 + 1, 2, none⟩ = some (.int .i64 b) ∧ V.cell? ⟨w.heap.size + 1, 2 + b.toNat, none⟩ = some (.int .i64 (reg c b)) from
   ⟨(X.out.st.b1.below h X.out.st.b1.lt).cells 6, (B2.out.below h B2.out.lt).cells 1, (B2.out.below h B2.out.lt).cells 2, ((X.out.st.b1.below h X.out.st.b1.lt).cells (2 + b.toNat)).trans (fcells_reg c _ b hb0 hb4)⟩))
  have hF := hid (fun (V : World) (h : App.Bl W V) => show V.frozen? ⟨w.heap.size + 1, 6, none⟩ = false from (X.out.st.b1.below h X.out.st.b1.lt).frozen 6)
  have hO := hid (fun (V : World) (A5 : Option Addr) (n5 c5 : Nat) (o : V.ownsRow W.heap.size 177 2 (.slice A5 n5 c5) (c.defers.length + 1) (cells2 c.defers ++ [.int .i64 a, .int .i64 (reg c b)])) => show Prs V W.heap.size (.slice A5 n5 c5) (c.defers ++ [(a, reg c b)]) by
   unfold Prs
   rw [List.length_append, cells2_append]
   simpa [cells2, c2] using o)
  clear z2
  have S0 := hX.out W.drew (App.Bl.refl _).drew
  try go_wp2_with fail
  refine Last.region_last 15 (fun V : World => V.cell? ⟨w.heap.size + 1, 6, none⟩ = some (.slice Ad nd cd) ∧ V.cell? ⟨w.heap.size + 1 + 1, 1, none⟩ = some (.int .i64 a) ∧ V.cell? ⟨w.heap.size + 1 + 1, 2, none⟩ = some (.int .i64 b) ∧ V.cell? ⟨w.heap.size + 1, 2 + b.toNat, none⟩ = some (.int .i64 (reg c b))) (by kernel_rfl) ?_
  refine Last.last_take (i := 1) (d := some 26) (v := ?v1) rfl rfl (by kernel_rfl) (by kernel_rfl) (by kernel_rfl) (fun _ _ _ h => h) rfl (by kernel_rfl) (by kernel_rfl) rfl ?y1 S0 ?r1
  case y1 => (intro V hV; (try dsimp only at hV); go_simp; try with_reducible rfl)
  simp only [Act.put, List.setIfInBounds_toArray, List.set_cons_zero, List.set_cons_succ]
  refine Last.last_take (i := 2) (d := some 27) (v := ?v2) rfl rfl (by kernel_rfl) (by kernel_rfl) (by kernel_rfl) (fun _ _ _ h => h) rfl (by kernel_rfl) (by kernel_rfl) rfl ?y2 S0 ?r2
  case y2 => (intro V hV; (try dsimp only at hV); go_simp; try with_reducible rfl)
  simp only [Act.put, List.setIfInBounds_toArray, List.set_cons_zero, List.set_cons_succ]
  refine Last.last_take (i := 4) (d := some 29) (v := ?v4) rfl rfl (by kernel_rfl) (by kernel_rfl) (by kernel_rfl) (fun _ _ _ h => h) rfl (by kernel_rfl) (by kernel_rfl) rfl ?y4 S0 ?r4
  case y4 => (intro V hV; (try dsimp only at hV); go_simp; try with_reducible rfl)
  simp only [Act.put, List.setIfInBounds_toArray, List.set_cons_zero, List.set_cons_succ]
  refine Last.last_take (i := 5) (d := some 30) (v := ?v5) rfl rfl (by kernel_rfl) (by kernel_rfl) (by kernel_rfl) (fun _ _ _ h => h) rfl (by kernel_rfl) (by kernel_rfl) rfl ?y5 S0 ?r5
  case y5 => (intro V hV; (try dsimp only at hV); go_simp; try with_reducible rfl)
  simp only [Act.put, List.setIfInBounds_toArray, List.set_cons_zero, List.set_cons_succ]
  refine Last.last_take (i := 6) (d := some 31) (v := ?v6) rfl rfl (by kernel_rfl) (by kernel_rfl) (by kernel_rfl) (fun _ _ _ h => h) rfl (by kernel_rfl) (by kernel_rfl) rfl ?y6 S0 ?r6
  case y6 => (intro V hV; (try dsimp only at hV); go_simp; try with_reducible rfl)
  simp only [Act.put, List.setIfInBounds_toArray, List.set_cons_zero, List.set_cons_succ]
  refine Last.last_take (i := 7) (d := some 32) (v := ?v7) rfl rfl (by kernel_rfl) (by kernel_rfl) (by kernel_rfl) (fun _ _ _ h => h) rfl (by kernel_rfl) (by kernel_rfl) rfl ?y7 S0 ?r7
  case y7 => (intro V hV; (try dsimp only at hV); go_simp; try with_reducible rfl)
  simp only [Act.put, List.setIfInBounds_toArray, List.set_cons_zero, List.set_cons_succ]
  refine Last.last_take (i := 8) (d := some 33) (v := ?v8) rfl rfl (by kernel_rfl) (by kernel_rfl) (by kernel_rfl) (fun _ _ _ h => h) rfl (by kernel_rfl) (by kernel_rfl) rfl ?y8 S0 ?r8
  case y8 => (intro V hV; (try dsimp only at hV); go_simp; try with_reducible rfl)
  simp only [Act.put, List.setIfInBounds_toArray, List.set_cons_zero, List.set_cons_succ]
  refine Last.last_take (i := 9) (d := some 34) (v := ?v9) rfl rfl (by kernel_rfl) (by kernel_rfl) (by kernel_rfl) (fun _ _ _ h => h) rfl (by kernel_rfl) (by kernel_rfl) rfl ?y9 S0 ?r9
  case y9 => (intro V hV; (try dsimp only at hV); go_simp; try with_reducible rfl)
  simp only [Act.put, List.setIfInBounds_toArray, List.set_cons_zero, List.set_cons_succ]
  refine Last.last_take (i := 10) (d := some 35) (v := ?v10) rfl rfl (by kernel_rfl) (by kernel_rfl) (by kernel_rfl) (fun _ _ _ h => h) rfl (by kernel_rfl) (by kernel_rfl) rfl ?y10 S0 ?r10
  case y10 => (intro V hV; (try dsimp only at hV); go_simp; try with_reducible rfl)
  simp only [Act.put, List.setIfInBounds_toArray, List.set_cons_zero, List.set_cons_succ]
  refine Last.last_take (i := 11) (d := some 36) (v := ?v11) rfl rfl (by kernel_rfl) (by kernel_rfl) (by kernel_rfl) (fun _ _ _ h => h) rfl (by kernel_rfl) (by kernel_rfl) rfl ?y11 S0 ?r11
  case y11 => (intro V hV; (try dsimp only at hV); go_simp; try with_reducible rfl)
  simp only [Act.put, List.setIfInBounds_toArray, List.set_cons_zero, List.set_cons_succ]
  refine Last.last_two (i := 0) (j := 12) (oi := { dst := some 25, op := .buildSlice 149 0 #[], type := 149, pos := _, after := _, guard := none }) (oj := { dst := some 37, op := .buildSlice 149 1 #[(0, .tmp 36)], type := 149, pos := _, after := _, guard := none }) (by kernel_rfl) rfl rfl rfl rfl (fun K hK => ?_) (fun K hK => ?_)
  ·skip
   go_simp
   refine hK.out _ _ (fun _ => hX.out _ (show App.Bl W _ by repeat (first | assumption | refine App.Bl.alloc ?_ _ | refine App.Bl.drew ?_ | exact App.Bl.refl _))) ?_
   clear hK K S0
   try simp only [Act.put, List.setIfInBounds_toArray, List.set_cons_zero, List.set_cons_succ]
   refine Last.last_two (i := 3) (j := 12) (oi := { dst := some 28, op := .call { callee := .builtin .append, args := #[.tmp 25, .tmp 27], argTypes := #[149, 149] }, type := 149, pos := _, after := _, guard := none }) (oj := { dst := some 37, op := .buildSlice 149 1 #[(0, .tmp 36)], type := 149, pos := _, after := _, guard := none }) (by kernel_rfl) rfl rfl rfl rfl (fun K hK => ?_) (fun K hK => ?_)
   ·skip
    refine App.row_wp _ (.tmp 25) (.tmp 27) 149 rfl W.heap.size lo 177 i0 _ 2 16 Try.underlying149 hi hz0 hz1 hz2 rfl (by decide) (.slice (some ⟨W.heap.size, 0, none⟩) 0 0) 0 [] rfl (App.empty_own (heap1_0 _ _) (by simp)) _ _ _ rfl (Prs.below X.out.st.e.dfs (show App.Bl W _ by repeat (first | assumption | refine App.Bl.alloc ?_ _ | refine App.Bl.drew ?_ | exact App.Bl.refl _))) App.cells2_one (by unfold maxLen; omega) (by omega) (by first | (simp; done) | (simp; omega)) ?_
    intro v1 w1 o1 g1 t1
    have hB1 : App.Bl W w1 := App.Bl.grown (show App.Bl W _ by repeat (first | assumption | refine App.Bl.alloc ?_ _ | refine App.Bl.drew ?_ | exact App.Bl.refl _)) g1 (fun k hk => Nat.le_trans (by omega) (Nat.le_of_eq (show W.heap.size = k by simpa [Value.ownBlock] using hk)))
    clear g1 t1
    rw [Nat.zero_add, List.nil_append] at o1
    refine hK.out _ _ (fun _ => hX.out _ hB1) ?_
    clear hK K
    try simp only [Act.put, List.setIfInBounds_toArray, List.set_cons_zero, List.set_cons_succ]
    refine Last.last_one (i := 12) (o := { dst := some 37, op := .buildSlice 149 1 #[(0, .tmp 36)], type := 149, pos := _, after := _, guard := none }) (by kernel_rfl) rfl rfl (fun K hK => ?_)
    go_simp
    refine hK.out _ _ (fun _ => hX.out _ (show App.Bl W _ by repeat (first | assumption | refine App.Bl.alloc ?_ _ | refine App.Bl.drew ?_ | exact App.Bl.refl _))) ?_
    clear hK K
    try simp only [Act.put, List.setIfInBounds_toArray, List.set_cons_zero, List.set_cons_succ]
    refine Last.last_one (i := 13) (o := { dst := some 38, op := .call { callee := .builtin .append, args := #[.tmp 28, .tmp 37], argTypes := #[149, 149] }, type := 149, pos := _, after := _, guard := none }) (by kernel_rfl) rfl rfl (fun K hK => ?_)
    refine App.row_wp _ (.tmp 28) (.tmp 37) 149 rfl W.heap.size 0 177 i0 _ 2 16 Try.underlying149 hi hz0 hz1 hz2 rfl (by decide) _ _ _ rfl (o1.alloc _) _ _ _ rfl (App.pair_own (heap1_0 _ _)) (by intro u hu; simp at hu; rcases hu with rfl | rfl <;> rfl) (by unfold maxLen; omega) (by omega) (by first | exact hB1.size | (simp; have := hB1.size; omega)) ?_
    intro v2 w2 o2 g2 t2
    obtain ⟨Av, cv, rfl⟩ := own_slice o2
    have hB2 : App.Bl W w2 := App.Bl.grown (show App.Bl W _ by repeat (first | assumption | refine App.Bl.alloc ?_ _ | refine App.Bl.drew ?_ | exact App.Bl.refl _)) g2 (fun k hk => (o1.lt k hk).1)
    have kc : w2.cell? ⟨w.heap.size + 1, 6, none⟩ = some (.slice Ad nd cd) := (hX.out w2 hB2).1
    have kf : w2.frozen? ⟨w.heap.size + 1, 6, none⟩ = false := hF.out w2 hB2
    clear g2 t2
    refine hK.out _ _ (fun _ => hX.out w2 hB2) ?_
    clear hK K
    try simp only [Act.put, List.setIfInBounds_toArray, List.set_cons_zero, List.set_cons_succ]
    refine Last.last_one (i := 14) (o := { dst := some 39, op := .fieldAddr 154 (.tmp 5) 3, type := 0, pos := _, after := _, guard := none }) (by kernel_rfl) rfl rfl (fun K hK => ?_)
    go_simp
    refine hK.out _ _ (fun _ => hX.out w2 hB2) ?_
    clear hK K
    try simp only [Act.put, List.setIfInBounds_toArray, List.set_cons_zero, List.set_cons_succ]
    refine Last.last_one (i := 15) (o := { dst := none, op := .store 149 (.tmp 39) (.tmp 38), type := 0, pos := _, after := _, guard := none }) (by kernel_rfl) rfl rfl (fun K hK => ?_)
    go_simp
    refine hK.out _ _ (fun h => absurd rfl h) ?_
    clear hK K kc kf
    refine Last.last_done (by kernel_rfl) ?_ _
    go_wp2_with fail
    go_meet
    have o3 := hO.out w2 _ _ _ o2
    exact ⟨_, _, _, App.defer_world X.out hB2 o3 hlo, (B2.out.below hB2 B2.out.lt).far _ _ (by show w.heap.size + 1 + 1 ≠ w.heap.size + 1; omega)⟩
   ·skip
    go_simp
    refine hK.out _ _ (fun _ => hX.out _ (show App.Bl W _ by repeat (first | assumption | refine App.Bl.alloc ?_ _ | refine App.Bl.drew ?_ | exact App.Bl.refl _))) ?_
    clear hK K
    try simp only [Act.put, List.setIfInBounds_toArray, List.set_cons_zero, List.set_cons_succ]
    refine Last.last_one (i := 3) (o := { dst := some 28, op := .call { callee := .builtin .append, args := #[.tmp 25, .tmp 27], argTypes := #[149, 149] }, type := 149, pos := _, after := _, guard := none }) (by kernel_rfl) rfl rfl (fun K hK => ?_)
    refine App.row_wp _ (.tmp 25) (.tmp 27) 149 rfl W.heap.size lo 177 i0 _ 2 16 Try.underlying149 hi hz0 hz1 hz2 rfl (by decide) (.slice (some ⟨W.heap.size, 0, none⟩) 0 0) 0 [] rfl (App.empty_own (heap2_0 _ _ _) (by simp)) _ _ _ rfl (Prs.below X.out.st.e.dfs (show App.Bl W _ by repeat (first | assumption | refine App.Bl.alloc ?_ _ | refine App.Bl.drew ?_ | exact App.Bl.refl _))) App.cells2_one (by unfold maxLen; omega) (by omega) (by first | (simp; done) | (simp; omega)) ?_
    intro v1 w1 o1 g1 t1
    have hB1 : App.Bl W w1 := App.Bl.grown (show App.Bl W _ by repeat (first | assumption | refine App.Bl.alloc ?_ _ | refine App.Bl.drew ?_ | exact App.Bl.refl _)) g1 (fun k hk => Nat.le_trans (by omega) (Nat.le_of_eq (show W.heap.size = k by simpa [Value.ownBlock] using hk)))
    have el : w1.ownsRow 0 177 2 (.slice (some ⟨W.heap.size + 1, 0, none⟩) 1 1) 1 [.int .i64 a, .int .i64 (reg c b)] := World.ownsRow.kept (w := ((W.alloc (.cells #[] 177)).alloc (.cells #[.int .i64 a, .int .i64 (reg c b)] 177)).drew) (App.pair_own (heap2_1 W _ _)) g1 (.inr (by simp [Value.ownBlock]))
    clear g1 t1
    rw [Nat.zero_add, List.nil_append] at o1
    refine hK.out _ _ (fun _ => hX.out _ hB1) ?_
    clear hK K
    try simp only [Act.put, List.setIfInBounds_toArray, List.set_cons_zero, List.set_cons_succ]
    refine Last.last_one (i := 13) (o := { dst := some 38, op := .call { callee := .builtin .append, args := #[.tmp 28, .tmp 37], argTypes := #[149, 149] }, type := 149, pos := _, after := _, guard := none }) (by kernel_rfl) rfl rfl (fun K hK => ?_)
    refine App.row_wp _ (.tmp 28) (.tmp 37) 149 rfl W.heap.size 0 177 i0 _ 2 16 Try.underlying149 hi hz0 hz1 hz2 rfl (by decide) _ _ _ rfl o1 _ _ _ rfl el (by intro u hu; simp at hu; rcases hu with rfl | rfl <;> rfl) (by unfold maxLen; omega) (by omega) (by first | exact hB1.size | (simp; have := hB1.size; omega)) ?_
    intro v2 w2 o2 g2 t2
    obtain ⟨Av, cv, rfl⟩ := own_slice o2
    have hB2 : App.Bl W w2 := App.Bl.grown (show App.Bl W _ by repeat (first | assumption | refine App.Bl.alloc ?_ _ | refine App.Bl.drew ?_ | exact App.Bl.refl _)) g2 (fun k hk => (o1.lt k hk).1)
    have kc : w2.cell? ⟨w.heap.size + 1, 6, none⟩ = some (.slice Ad nd cd) := (hX.out w2 hB2).1
    have kf : w2.frozen? ⟨w.heap.size + 1, 6, none⟩ = false := hF.out w2 hB2
    clear g2 t2
    refine hK.out _ _ (fun _ => hX.out w2 hB2) ?_
    clear hK K
    try simp only [Act.put, List.setIfInBounds_toArray, List.set_cons_zero, List.set_cons_succ]
    refine Last.last_one (i := 14) (o := { dst := some 39, op := .fieldAddr 154 (.tmp 5) 3, type := 0, pos := _, after := _, guard := none }) (by kernel_rfl) rfl rfl (fun K hK => ?_)
    go_simp
    refine hK.out _ _ (fun _ => hX.out w2 hB2) ?_
    clear hK K
    try simp only [Act.put, List.setIfInBounds_toArray, List.set_cons_zero, List.set_cons_succ]
    refine Last.last_one (i := 15) (o := { dst := none, op := .store 149 (.tmp 39) (.tmp 38), type := 0, pos := _, after := _, guard := none }) (by kernel_rfl) rfl rfl (fun K hK => ?_)
    go_simp
    refine hK.out _ _ (fun h => absurd rfl h) ?_
    clear hK K kc kf
    refine Last.last_done (by kernel_rfl) ?_ _
    go_wp2_with fail
    go_meet
    have o3 := hO.out w2 _ _ _ o2
    exact ⟨_, _, _, App.defer_world X.out hB2 o3 hlo, (B2.out.below hB2 B2.out.lt).far _ _ (by show w.heap.size + 1 + 1 ≠ w.heap.size + 1; omega)⟩
  ·skip
   go_simp
   refine hK.out _ _ (fun _ => hX.out _ (show App.Bl W _ by repeat (first | assumption | refine App.Bl.alloc ?_ _ | refine App.Bl.drew ?_ | exact App.Bl.refl _))) ?_
   clear hK K S0
   try simp only [Act.put, List.setIfInBounds_toArray, List.set_cons_zero, List.set_cons_succ]
   refine Last.last_one (i := 0) (o := { dst := some 25, op := .buildSlice 149 0 #[], type := 149, pos := _, after := _, guard := none }) (by kernel_rfl) rfl rfl (fun K hK => ?_)
   go_simp
   refine hK.out _ _ (fun _ => hX.out _ (show App.Bl W _ by repeat (first | assumption | refine App.Bl.alloc ?_ _ | refine App.Bl.drew ?_ | exact App.Bl.refl _))) ?_
   clear hK K
   try simp only [Act.put, List.setIfInBounds_toArray, List.set_cons_zero, List.set_cons_succ]
   refine Last.last_one (i := 3) (o := { dst := some 28, op := .call { callee := .builtin .append, args := #[.tmp 25, .tmp 27], argTypes := #[149, 149] }, type := 149, pos := _, after := _, guard := none }) (by kernel_rfl) rfl rfl (fun K hK => ?_)
   refine App.row_wp _ (.tmp 25) (.tmp 27) 149 rfl W.heap.size lo 177 i0 _ 2 16 Try.underlying149 hi hz0 hz1 hz2 rfl (by decide) (.slice (some ⟨(W.heap.size + 1), 0, none⟩) 0 0) 0 [] rfl (App.empty_own (heap2_1 _ _ _) (by simp)) _ _ _ rfl (Prs.below X.out.st.e.dfs (show App.Bl W _ by repeat (first | assumption | refine App.Bl.alloc ?_ _ | refine App.Bl.drew ?_ | exact App.Bl.refl _))) App.cells2_one (by unfold maxLen; omega) (by omega) (by first | (simp; done) | (simp; omega)) ?_
   intro v1 w1 o1 g1 t1
   have hB1 : App.Bl W w1 := App.Bl.grown (show App.Bl W _ by repeat (first | assumption | refine App.Bl.alloc ?_ _ | refine App.Bl.drew ?_ | exact App.Bl.refl _)) g1 (fun k hk => Nat.le_trans (by omega) (Nat.le_of_eq (show (W.heap.size + 1) = k by simpa [Value.ownBlock] using hk)))
   have el : w1.ownsRow 0 177 2 (.slice (some ⟨W.heap.size, 0, none⟩) 1 1) 1 [.int .i64 a, .int .i64 (reg c b)] := World.ownsRow.kept (w := ((W.alloc (.cells #[.int .i64 a, .int .i64 (reg c b)] 177)).alloc (.cells #[] 177)).drew) (App.pair_own (heap2_0 W _ _)) g1 (.inr (by simp [Value.ownBlock]))
   clear g1 t1
   rw [Nat.zero_add, List.nil_append] at o1
   refine hK.out _ _ (fun _ => hX.out _ hB1) ?_
   clear hK K
   try simp only [Act.put, List.setIfInBounds_toArray, List.set_cons_zero, List.set_cons_succ]
   refine Last.last_one (i := 13) (o := { dst := some 38, op := .call { callee := .builtin .append, args := #[.tmp 28, .tmp 37], argTypes := #[149, 149] }, type := 149, pos := _, after := _, guard := none }) (by kernel_rfl) rfl rfl (fun K hK => ?_)
   refine App.row_wp _ (.tmp 28) (.tmp 37) 149 rfl W.heap.size 0 177 i0 _ 2 16 Try.underlying149 hi hz0 hz1 hz2 rfl (by decide) _ _ _ rfl o1 _ _ _ rfl el (by intro u hu; simp at hu; rcases hu with rfl | rfl <;> rfl) (by unfold maxLen; omega) (by omega) (by first | exact hB1.size | (simp; have := hB1.size; omega)) ?_
   intro v2 w2 o2 g2 t2
   obtain ⟨Av, cv, rfl⟩ := own_slice o2
   have hB2 : App.Bl W w2 := App.Bl.grown (show App.Bl W _ by repeat (first | assumption | refine App.Bl.alloc ?_ _ | refine App.Bl.drew ?_ | exact App.Bl.refl _)) g2 (fun k hk => (o1.lt k hk).1)
   have kc : w2.cell? ⟨w.heap.size + 1, 6, none⟩ = some (.slice Ad nd cd) := (hX.out w2 hB2).1
   have kf : w2.frozen? ⟨w.heap.size + 1, 6, none⟩ = false := hF.out w2 hB2
   clear g2 t2
   refine hK.out _ _ (fun _ => hX.out w2 hB2) ?_
   clear hK K
   try simp only [Act.put, List.setIfInBounds_toArray, List.set_cons_zero, List.set_cons_succ]
   refine Last.last_one (i := 14) (o := { dst := some 39, op := .fieldAddr 154 (.tmp 5) 3, type := 0, pos := _, after := _, guard := none }) (by kernel_rfl) rfl rfl (fun K hK => ?_)
   go_simp
   refine hK.out _ _ (fun _ => hX.out w2 hB2) ?_
   clear hK K
   try simp only [Act.put, List.setIfInBounds_toArray, List.set_cons_zero, List.set_cons_succ]
   refine Last.last_one (i := 15) (o := { dst := none, op := .store 149 (.tmp 39) (.tmp 38), type := 0, pos := _, after := _, guard := none }) (by kernel_rfl) rfl rfl (fun K hK => ?_)
   go_simp
   refine hK.out _ _ (fun h => absurd rfl h) ?_
   clear hK K kc kf
   refine Last.last_done (by kernel_rfl) ?_ _
   go_wp2_with fail
   go_meet
   have o3 := hO.out w2 _ _ _ o2
   exact ⟨_, _, _, App.defer_world X.out hB2 o3 hlo, (B2.out.below hB2 B2.out.lt).far _ _ (by show w.heap.size + 1 + 1 ≠ w.heap.size + 1; omega)⟩
 case rest =>
  obtain ⟨A5, n5, c5, q, hs2⟩ := hcut
  have ht := hid (fun (V : World) (B : Beg w lo (.slice Ap np cp) (.slice At nt ct) (.slice As ns cs) (.slice At nt ct) (.slice As ns cs) (.slice A5 n5 c5) fuel m { c with defers := c.defers ++ [(a, reg c b)] } V) =>
   tell_any lo (.slice Ap np cp) fuel m (.slice At nt ct) (.slice As ns cs) 2 a (reg c b) hlen V B.st.e.tre (Nat.le_trans hlo B.st.e.chg.size) ⟨_, _, _, rfl⟩ ⟨_, _, _, rfl⟩)
  unfold mval at ht
  have QD := hid q.drew
  have S2 := hid (show Blk wc.drew (w.heap.size + 1 + 1) 139 #[.int .i64 5, .int .i64 a, .int .i64 b] from hs2)
  clear q hs2 z2 lt2
  generalize hrb : reg c b = rb at *
  have HRB := hid hrb
  clear hrb
  have s0 : ∀ o, wc.drew.cell? ⟨w.heap.size, o, none⟩ = (#[.slice Ap np cp, .int .i64 fuel, .bool m.spent, .int .i64 m.shared, .int .i64 m.made, .int .i64 m.deep, .slice At nt ct, .slice As ns cs] : Array Value)[o]? := QD.out.st.b0.cells
  have s1 : ∀ o, wc.drew.cell? ⟨w.heap.size + 1, o, none⟩ = (#[.int .i64 c.f, .int .i64 c.depth, .int .i64 c.r0, .int .i64 c.r1, .int .i64 c.r2, .int .i64 c.r3, .slice A5 n5 c5, .int .i64 c.kind, .int .i64 c.value, .bool c.leaving, .bool c.deferred, .bool c.panicking, .int .i64 c.panic, .bool c.recovered, .int .i64 c.outer] : Array Value)[o]? := QD.out.st.b1.cells
  have s2 : wc.drew.cell? ⟨w.heap.size + 1 + 1, 1, none⟩ = some (.int .i64 a) := S2.out.cells 1
  have s3 : wc.drew.cell? ⟨w.heap.size + 1 + 1, 2, none⟩ = some (.int .i64 b) := S2.out.cells 2
  have s4 : wc.drew.cell? ⟨w.heap.size + 1, 2 + b.toNat, none⟩ = some (.int .i64 rb) := (QD.out.st.b1.cells (2 + b.toNat)).trans ((fcells_reg { c with defers := c.defers ++ [(a, rb)] } _ b hb0 hb4).trans (congrArg (fun x => some (Value.int .i64 x)) (show reg { c with defers := c.defers ++ [(a, rb)] } b = rb from HRB.out)))
  have s0' : ∀ o, wc.cell? ⟨w.heap.size, o, none⟩ = (#[.slice Ap np cp, .int .i64 fuel, .bool m.spent, .int .i64 m.shared, .int .i64 m.made, .int .i64 m.deep, .slice At nt ct, .slice As ns cs] : Array Value)[o]? := s0
  have s1' : ∀ o, wc.cell? ⟨w.heap.size + 1, o, none⟩ = (#[.int .i64 c.f, .int .i64 c.depth, .int .i64 c.r0, .int .i64 c.r1, .int .i64 c.r2, .int .i64 c.r3, .slice A5 n5 c5, .int .i64 c.kind, .int .i64 c.value, .bool c.leaving, .bool c.deferred, .bool c.panicking, .int .i64 c.panic, .bool c.recovered, .int .i64 c.outer] : Array Value)[o]? := s1
  have s2' : wc.cell? ⟨w.heap.size + 1 + 1, 1, none⟩ = some (.int .i64 a) := s2
  have s3' : wc.cell? ⟨w.heap.size + 1 + 1, 2, none⟩ = some (.int .i64 b) := s3
  have s4' : wc.cell? ⟨w.heap.size + 1, 2 + b.toNat, none⟩ = some (.int .i64 rb) := s4
  have hq : ((#[.int .i64 c.f, .int .i64 c.depth, .int .i64 c.r0, .int .i64 c.r1, .int .i64 c.r2, .int .i64 c.r3, .slice A5 n5 c5, .int .i64 c.kind, .int .i64 c.value, .bool c.leaving, .bool c.deferred, .bool c.panicking, .int .i64 c.panic, .bool c.recovered, .int .i64 c.outer] : Array Value).toList)[2 + b.toNat]? = some (.int .i64 rb) := by
   have := (QD.out.st.b1.cells (2 + b.toNat)).symm.trans s4
   simpa [fcells] using this
  simp only [List.toList_toArray] at hq
  have hwp : IntKind.i64.wrap (pl + 1) = pl + 1 := IntWalk.i64_in _ (by omega)
  try go_wp2_with fail
  go_region_held3 (fun w' => (∀ o, w'.cell? ⟨w.heap.size, o, none⟩ = (#[.slice Ap np cp, .int .i64 fuel, .bool m.spent, .int .i64 m.shared, .int .i64 m.made, .int .i64 m.deep, .slice At nt ct, .slice As ns cs] : Array Value)[o]?) ∧ (∀ o, w'.cell? ⟨w.heap.size + 1, o, none⟩ = (#[.int .i64 c.f, .int .i64 c.depth, .int .i64 c.r0, .int .i64 c.r1, .int .i64 c.r2, .int .i64 c.r3, .slice A5 n5 c5, .int .i64 c.kind, .int .i64 c.value, .bool c.leaving, .bool c.deferred, .bool c.panicking, .int .i64 c.panic, .bool c.recovered, .int .i64 c.outer] : Array Value)[o]?) ∧ w'.cell? ⟨w.heap.size + 1 + 1, 1, none⟩ = some (.int .i64 a) ∧ w'.cell? ⟨w.heap.size + 1 + 1, 2, none⟩ = some (.int .i64 b) ∧ w'.cell? ⟨w.heap.size + 1, 2 + b.toNat, none⟩ = some (.int .i64 (rb)))
   (first | (with_reducible exact ⟨s0, s1, s2, s3, s4⟩) | (with_reducible exact ⟨s0', s1', s2', s3', s4'⟩) | (with_reducible exact ⟨y0, y1, y2, y5, y6⟩) | (refine ⟨fun o => ?_, fun o => ?_, ?_, ?_, ?_⟩ <;> (simp (disch := omega) only [cell_far]; first | (with_reducible exact y0 o) | (with_reducible exact y1 o) | (with_reducible exact y2) | (with_reducible exact y5) | (with_reducible exact y6) | (with_reducible exact s0 o) | (with_reducible exact s1 o) | (with_reducible exact s2) | (with_reducible exact s3) | (with_reducible exact s4))))
   (first | (go_at_call 124; refine (ht.out _ QD.out).mono ?_; rintro e w' ⟨tv', rfl, t1, t2, t3⟩; obtain ⟨A2, n2, c2, rfl⟩ := tre_slice t1; have hk := tell_end QD.out.st t1 t2 t3; have k1 := hk.blk QD.out.st.e.tre QD.out.st.e.prs QD.out.st.b1 (by decide) (by decide); have k2 := hk.blk QD.out.st.e.tre QD.out.st.e.prs S2.out (by decide) (by decide); have y0 : ∀ o, w'.cell? ⟨w.heap.size, o, none⟩ = (#[.slice Ap np cp, .int .i64 fuel, .bool m.spent, .int .i64 m.shared, .int .i64 m.made, .int .i64 m.deep, .slice At nt ct, .slice As ns cs] : Array Value)[o]? := (hk.blk QD.out.st.e.tre QD.out.st.e.prs QD.out.st.b0 (by decide) (by decide)).cells; have y1 : ∀ o, w'.cell? ⟨w.heap.size + 1, o, none⟩ = (#[.int .i64 c.f, .int .i64 c.depth, .int .i64 c.r0, .int .i64 c.r1, .int .i64 c.r2, .int .i64 c.r3, .slice A5 n5 c5, .int .i64 c.kind, .int .i64 c.value, .bool c.leaving, .bool c.deferred, .bool c.panicking, .int .i64 c.panic, .bool c.recovered, .int .i64 c.outer] : Array Value)[o]? := k1.cells; have y2 : w'.cell? ⟨w.heap.size + 1 + 1, 1, none⟩ = some (.int .i64 a) := k2.cells 1; have y5 : w'.cell? ⟨w.heap.size + 1 + 1, 2, none⟩ = some (.int .i64 b) := k2.cells 2; have y6 : w'.cell? ⟨w.heap.size + 1, 2 + b.toNat, none⟩ = some (.int .i64 rb) := (k1.cells (2 + b.toNat)).trans ((QD.out.st.b1.cells (2 + b.toNat)).symm.trans s4); have Y3 := hid (hk.blk QD.out.st.e.tre QD.out.st.e.prs QD.out.b3 (by decide) (by decide)); have Y4 := hid (hk.blk QD.out.st.e.tre QD.out.st.e.prs QD.out.b4 (by decide) (by decide)); have y3 : ∀ o, w'.cell? ⟨w.heap.size + 1 + 1 + 1, o, none⟩ = (#[.slice none 0 0, .int .i64 0, .bool false, .int .i64 0, .int .i64 0, .int .i64 0, .slice none 0 0, .slice none 0 0] : Array Value)[o]? := Y3.out.cells; have y4 : ∀ o, w'.cell? ⟨w.heap.size + 1 + 1 + 1 + 1, o, none⟩ = (#[.int .i64 0, .int .i64 0, .int .i64 0, .int .i64 0, .int .i64 0, .int .i64 0, .slice none 0 0, .int .i64 0, .int .i64 0, .bool false, .bool false, .bool false, .int .i64 0, .bool false, .int .i64 0] : Array Value)[o]? := Y4.out.cells; have f3 := Y3.out.frozen; have f4 := Y4.out.frozen; have HK := hid (QD.out.st.e.call hk); clear hk k1 k2 t1 t2 t3 s0 s1 s2 s3 s4 s0' s1' s2' s3' s4'))
  change (fun V => Exit.then _ _ _ _ V) _
  refine gen_world (X := fun V => Lef w lo (.slice At nt ct) (.slice As ns cs) (.slice A2 n2 c2) (.slice As ns cs) (.slice A5 n5 c5) (tell m 2 a rb) ({ c with defers := c.defers ++ [(a, rb)] }) V ∧ Blk V (w.heap.size + 1 + 1 + 1) 151 (mcells (.slice Ap np cp) fuel (tell m 2 a rb) (.slice A2 n2 c2) (.slice As ns cs)) ∧ Blk V (w.heap.size + 1 + 1 + 1 + 1) 154 (fcells ({ c with defers := c.defers ++ [(a, rb)] }) (.slice A5 n5 c5))) ?_ ?_
  ·have o := outs (vp := .slice Ap np cp) (fuel := fuel) HK.out Y3.out Y4.out (by omega) (by omega) (by omega)
   exact o
  intro V hV
  obtain ⟨v0, v1, v2⟩ := hV
  have V0 := hid v0
  have V1 := v1.cells
  have V2 := v2.cells
  clear v0 v1 v2 y0 y1 y2 y5 y6 y3 y4 f3 f4
  unfold mcells at V1
  unfold fcells at V2
  try dsimp only at V2
  go_wp2_with fail
  exact bodyPost_ret (v := .tuple #[mval (.slice Ap np cp) fuel (tell m 2 a rb) (.slice A2 n2 c2) (.slice As ns cs), fval ({ c with defers := c.defers ++ [(a, rb)] }) (.slice A5 n5 c5), .int .i64 (pl + 1)]) (by simp [results, Try.results125, go_sem, V1, V2, mval, fval]) rfl ⟨_, _, _, by rw [HE.out], by rw [HE.out]; exact V0.out⟩
end Go.Proofs.Ythejnpignlhgiaa.Smk5
-- squeezed
