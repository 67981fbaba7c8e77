import Derived.Test.YthejnpignlhgiaaFrp
import Derived.Test.YthejnpignlhgiaaM12
import Derived.Test.YthejnpignlhgiaaM3
set_option linter.all false
namespace Go.Proofs.Ythejnpignlhgiaa.Frs
open Lib (hid)
open Go.ChangeShapes Go.WideShapes Go.ChangeAt Go.RowKit
open PL Mem Srun Sst Ssim Smk To OwnS AskP Res Swhole Sout StS Frp
theorem size8 (W : World) (g : Nat) (u0 u1 u2 u3 u4 u5 u6 u7 : Value) : (((((((((W).setCell ⟨g, 0, none⟩ u0).setCell ⟨g, 1, none⟩ u1).setCell ⟨g, 2, none⟩ u2).setCell ⟨g, 3, none⟩ u3).setCell ⟨g, 4, none⟩ u4).setCell ⟨g, 5, none⟩ u5).setCell ⟨g, 6, none⟩ u6).setCell ⟨g, 7, none⟩ u7).heap.size = W.heap.size := by simp [World.setCell]
theorem far8 {W : World} {b g t : Nat} {cs : Array Value} (h : Blk W b t cs) (hne : b ≠ g) (u0 u1 u2 u3 u4 u5 u6 u7 : Value) : Blk (((((((((W).setCell ⟨g, 0, none⟩ u0).setCell ⟨g, 1, none⟩ u1).setCell ⟨g, 2, none⟩ u2).setCell ⟨g, 3, none⟩ u3).setCell ⟨g, 4, none⟩ u4).setCell ⟨g, 5, none⟩ u5).setCell ⟨g, 6, none⟩ u6).setCell ⟨g, 7, none⟩ u7) b t cs := by
 iterate 8 refine Blk.far ?_ _ _ hne
 exact h
theorem tre8 {W : World} {lo g : Nat} {v : Value} {t : List Tr} (h : Tre W lo v t) (hne : v.ownBlock ≠ some g) (u0 u1 u2 u3 u4 u5 u6 u7 : Value) : Tre (((((((((W).setCell ⟨g, 0, none⟩ u0).setCell ⟨g, 1, none⟩ u1).setCell ⟨g, 2, none⟩ u2).setCell ⟨g, 3, none⟩ u3).setCell ⟨g, 4, none⟩ u4).setCell ⟨g, 5, none⟩ u5).setCell ⟨g, 6, none⟩ u6).setCell ⟨g, 7, none⟩ u7) lo v t := by
 iterate 8 refine own_far ?_ _ _ hne
 exact h
theorem bel8 {w W : World} {B g : Nat} (h : Below B w W) (hg : B ≤ g) (u0 u1 u2 u3 u4 u5 u6 u7 : Value) : Below B w (((((((((W).setCell ⟨g, 0, none⟩ u0).setCell ⟨g, 1, none⟩ u1).setCell ⟨g, 2, none⟩ u2).setCell ⟨g, 3, none⟩ u3).setCell ⟨g, 4, none⟩ u4).setCell ⟨g, 5, none⟩ u5).setCell ⟨g, 6, none⟩ u6).setCell ⟨g, 7, none⟩ u7) := by
 iterate 8 refine Below.setCell ?_ hg _
 exact h
theorem new_at {W : World} {g t : Nat} {cs : Array Value} (h : W.heap.size = g) : Blk (W.alloc (.cells cs t)) g t cs := by
 subst h
 exact heap1_0 _ _
theorem ne_blkF {W : World} {g g' t t' : Nat} {cs cs' : Array Value} (h : Blk W g t cs) (h' : Blk W g' t' cs') (hne : t ≠ t') : g ≠ g' := by
 rintro rfl
 unfold Blk at h h'
 rw [h] at h'
 simp at h'
 exact hne h'.2
def FrmR (r : M × Fr) (w : World) (e : Ending) (w' : World) : Prop :=
 ∃ A c, e = .returned (.tuple #[outval (told r) (.slice A r.1.trace.length c), .int .i64 r.1.shared]) ∧ Tre w' w.heap.size (.slice A r.1.trace.length c) r.1.trace ∧ Below w.heap.size w w'
set_option maxRecDepth 100000 in
set_option maxHeartbeats 8000000 in
theorem l10From_any (lo n c : Nat) (A : Option Addr) (p : Pg) (f arg fuel s : Int) (hl : p.length = n) (hsm : Small p 100) (hn : n ≤ 100) (ha : asks p f arg fuel = true) (hs : N16 s) (w : World) (ho : OwnP w lo (.slice A n c) p) :
  Calls Try.prog 79 #[.agg #[.slice A n c], .int .i64 f, .int .i64 arg, .int .i64 fuel, .int .i64 s] w (FrmR (frm p f arg fuel s) w) := by
 obtain ⟨hok, f0, f1, ha, hf0, hf2⟩ := start_wf (n := n) ha
 have hown := hid (fun W (h : Below w.heap.size w W) => l2Own_any lo n c A p hn hl hsm W (ho.below h))
 have hcall := hid (fun (lo : Nat) (Ap : Option Addr) (cp : Nat) => Scall.call_all lo Ap n cp p fuel hok hl 8 (by decide))
 have hwm := hid (startS_m (K := 3000) hf0 hf2 hs (by decide))
 have hwf := hid (newFrame_wf (N := (n : Int)) f 1 arg f0 (by rw [← hl]; exact f1) ha)
 unfold frm
 have h2 := hid (show ∀ o1 o2 : Obj, Below w.heap.size w ((w.alloc o1).alloc o2) from fun o1 o2 => ((Below.refl _ _).alloc (Nat.le_refl _) _).alloc (by simp) _)
 clear ho ha hok f0 f1 hf0 hf2 hsm hs
 go_enter Try.func79, Try.ntmps79
 go_wp2_with fail
 refine (hown.out _ (h2.out _ _)).mono ?_
 rintro e w1 ⟨A1, c1, rfl, o1, b1⟩
 have hsz : w.heap.size + 2 ≤ w1.heap.size := by have := b1.size; simp at this; omega
 have hbw : Below w.heap.size w w1 := (h2.out _ _).trans (b1.mono (by simp <;> omega))
 have B9 : Blk w1 (w.heap.size + 1) 56 #[.int .i64 0, .int .i64 0, .slice none 0 0, .int .i64 0] := Blk.below (heap2_1 w _ _) b1 (by simp <;> omega)
 have r1 := o1.rd
 have HB9 := hid B9
 have HR1 := hid r1
 have HBW := hid hbw
 clear hown B9 r1 hbw o1 b1 h2
 go_upto_region 2 with fail
 change (fun V => Code.wp _ _ _ _ V) _
 refine gen_world (X := fun V => Blk V (w.heap.size + 1) 56 #[.int .i64 0, .int .i64 0, .slice none 0 0, .int .i64 0] ∧ RdP V w1.heap.size A1 p ∧ Below w.heap.size w V ∧ Tre V w1.heap.size (.slice (some ⟨w1.heap.size, 0, none⟩) 0 0) [] ∧ w1.heap.size ≤ V.heap.size ∧
  Blk V (w1.heap.size + 1) 151 #[.slice A1 n c1, .int .i64 fuel, .bool false, .int .i64 s, .int .i64 0, .int .i64 0, .slice (some ⟨w1.heap.size, 0, none⟩) 0 0, .slice none 0 0]) ?_ ?_
 ·have ba : Below w1.heap.size w1 ((w1.alloc (.cells #[] 94)).alloc (.cells #[.slice A1 n c1, .int .i64 fuel, .bool false, .int .i64 s, .int .i64 0, .int .i64 0, .slice (some ⟨w1.heap.size, 0, none⟩) 0 0, .slice none 0 0] 151)) := ((Below.refl _ _).alloc (Nat.le_refl _) _).alloc (by simp) _
  exact ⟨(HB9.out.alloc _).alloc _, HR1.out.below ba, HBW.out.trans (ba.mono (by omega)), App.empty_own (heap2_0 w1 _ _) (Nat.le_refl _), by simp only [World.size_alloc]; omega, heap2_1 w1 _ _⟩
 clear HB9 HR1 HBW
 intro V hV
 obtain ⟨v9, vr, vb, vt, vs, vm⟩ := hV
 have hc := hcall.out w1.heap.size A1 c1 3000 (startS s) (newFrame f 1 arg) (.slice (some ⟨w1.heap.size, 0, none⟩) 0 0) (.slice none 0 0) V hwm.out (by decide) hwf.out rfl rfl vr ⟨vt, World.ownsRow_nil _ _ _ _, World.ownsRow_nil _ _ _ _, Chg.refl _ _, fun _ h => .inl h, fun _ h => .inl h, fun x hx => by simp [Value.ownBlock] at hx⟩ vs rfl
 generalize PL.call p fuel 8 (startS s) (newFrame f 1 arg) = r at *
 unfold Ret mval fval at hc
 dsimp only [startS, newFrame] at hc
 have HC := hid hc
 have z := vm.cells
 have V9 := hid v9
 have VM := hid vm
 have VT := hid vt
 have VB := hid vb
 clear hc hcall hwm hwf v9 vr vb vt vs vm
 go_wp2_with fail
 refine HC.out.mono ?_
 rintro e w2 ⟨tv2, sv2, dv2, rfl, hk⟩
 obtain ⟨A2, c2, rfl⟩ := own_slice hk.tre
 obtain ⟨A3, n3, c3, rfl⟩ := prs_slice hk.prs
 obtain ⟨A4, n4, c4, rfl⟩ := prs_slice hk.dfs
 have y9 := Lef.blk (m := startS s) hk VT.out (World.ownsRow_nil _ _ _ _) V9.out (by decide) (by decide)
 have ym := Lef.blk (m := startS s) hk VT.out (World.ownsRow_nil _ _ _ _) VM.out (by decide) (by decide)
 have hbe : Below w.heap.size w w2 := VB.out.trans (hk.chg.below VB.out.size (fun x hx hc => by
  rcases hc with hc | hc
  ·have : w1.heap.size = x := by simpa [Value.ownBlock] using hc
   omega
  ·simp [Value.ownBlock] at hc))
 have hto := hid (fun W => told_any (.slice A1 n c1) (.slice A2 r.1.trace.length c2) (.slice A3 n3 c3) (.slice A4 n4 c4) fuel r.1 r.2 ⟨_, _, _, rfl⟩ ⟨_, _, _, rfl⟩ ⟨_, _, _, rfl⟩ ⟨_, _, _, rfl⟩ W)
 unfold mval fval at hto
 have Y9 := hid y9
 have YM := hid ym
 have BE := hid hbe
 have HT := hid hk.tre
 have zm := ym.cells
 have fm := ym.frozen
 have lm := ym.lt
 clear z y9 ym hbe hk HC V9 VM VT VB
 go_upto_region 3 with fail
 change (fun V => Code.wp _ _ _ _ V) _
 refine gen_world (X := fun V => Blk V (w.heap.size + 1) 56 #[.int .i64 0, .int .i64 0, .slice none 0 0, .int .i64 0] ∧ Blk V (w1.heap.size + 1) 151 #[.slice A1 n c1, .int .i64 fuel, .bool r.1.spent, .int .i64 r.1.shared, .int .i64 r.1.made, .int .i64 r.1.deep, .slice A2 r.1.trace.length c2, .slice A3 n3 c3] ∧ Blk V w2.heap.size 154 #[.int .i64 r.2.f, .int .i64 r.2.depth, .int .i64 r.2.r0, .int .i64 r.2.r1, .int .i64 r.2.r2, .int .i64 r.2.r3, .slice A4 n4 c4, .int .i64 r.2.kind, .int .i64 r.2.value, .bool r.2.leaving, .bool r.2.deferred, .bool r.2.panicking, .int .i64 r.2.panic, .bool r.2.recovered, .int .i64 r.2.outer] ∧ Tre V w1.heap.size (.slice A2 r.1.trace.length c2) r.1.trace ∧ Below w.heap.size w V) ?_ ?_
 ·have hne : w2.heap.size ≠ w1.heap.size + 1 := by have := YM.out.lt; omega
  have hn2 : w.heap.size + 1 ≠ w1.heap.size + 1 := by omega
  have hn3 : w.heap.size + 1 ≠ w2.heap.size := by have := Y9.out.lt; omega
  have e8 := size8 w2 (w1.heap.size + 1) (.slice A1 n c1) (.int .i64 fuel) (.bool r.1.spent) (.int .i64 r.1.shared) (.int .i64 r.1.made) (.int .i64 r.1.deep) (.slice A2 r.1.trace.length c2) (.slice A3 n3 c3)
  have hb9 := far8 Y9.out hn2 (.slice A1 n c1) (.int .i64 fuel) (.bool r.1.spent) (.int .i64 r.1.shared) (.int .i64 r.1.made) (.int .i64 r.1.deep) (.slice A2 r.1.trace.length c2) (.slice A3 n3 c3)
  have hbm := Blk.set8 YM.out (.slice A1 n c1) (.int .i64 fuel) (.bool r.1.spent) (.int .i64 r.1.shared) (.int .i64 r.1.made) (.int .i64 r.1.deep) (.slice A2 r.1.trace.length c2) (.slice A3 n3 c3)
  have htr := tre8 HT.out (blk_apart HT.out YM.out (by decide)) (.slice A1 n c1) (.int .i64 fuel) (.bool r.1.spent) (.int .i64 r.1.shared) (.int .i64 r.1.made) (.int .i64 r.1.deep) (.slice A2 r.1.trace.length c2) (.slice A3 n3 c3)
  have hbb := bel8 BE.out (show w.heap.size ≤ w1.heap.size + 1 by omega) (.slice A1 n c1) (.int .i64 fuel) (.bool r.1.spent) (.int .i64 r.1.shared) (.int .i64 r.1.made) (.int .i64 r.1.deep) (.slice A2 r.1.trace.length c2) (.slice A3 n3 c3)
  refine ⟨hb9.alloc _, hbm.alloc _, ?_, World.ownsRow.alloc htr _, hbb.alloc hbb.size _⟩
  exact new_at e8
 have hs2 := YM.out.lt
 clear zm fm Y9 YM BE HT
 rintro V ⟨v9, vm, vf, vt, vb⟩
 have V9 := hid v9
 have VM := hid vm
 have VF := hid vf
 have VT := hid vt
 have VB := hid vb
 generalize w1.heap.size + 1 = gm at *
 generalize w2.heap.size = gf at *
 have HO := hid (fun (W : World) (b : Below V.heap.size V W) => (show (fun V : World => (∀ o, V.cell? ⟨gm, o, none⟩ = (#[.slice A1 n c1, .int .i64 fuel, .bool r.1.spent, .int .i64 r.1.shared, .int .i64 r.1.made, .int .i64 r.1.deep, .slice A2 r.1.trace.length c2, .slice A3 n3 c3] : Array Value)[o]?) ∧ (∀ o, V.cell? ⟨gf, o, none⟩ = (#[.int .i64 r.2.f, .int .i64 r.2.depth, .int .i64 r.2.r0, .int .i64 r.2.r1, .int .i64 r.2.r2, .int .i64 r.2.r3, .slice A4 n4 c4, .int .i64 r.2.kind, .int .i64 r.2.value, .bool r.2.leaving, .bool r.2.deferred, .bool r.2.panicking, .int .i64 r.2.panic, .bool r.2.recovered, .int .i64 r.2.outer] : Array Value)[o]?)) W from ⟨(VM.out.below b VM.out.lt).cells, (VF.out.below b VF.out.lt).cells⟩))
 have S0 := HO.out V.drew (Below.refl _ _).drew
 clear v9 vm vf vt vb
 go_wp2_with fail
 refine Last2.region_last [] (fun V : World => (∀ o, V.cell? ⟨gm, o, none⟩ = (#[.slice A1 n c1, .int .i64 fuel, .bool r.1.spent, .int .i64 r.1.shared, .int .i64 r.1.made, .int .i64 r.1.deep, .slice A2 r.1.trace.length c2, .slice A3 n3 c3] : Array Value)[o]?) ∧ (∀ o, V.cell? ⟨gf, o, none⟩ = (#[.int .i64 r.2.f, .int .i64 r.2.depth, .int .i64 r.2.r0, .int .i64 r.2.r1, .int .i64 r.2.r2, .int .i64 r.2.r3, .slice A4 n4 c4, .int .i64 r.2.kind, .int .i64 r.2.value, .bool r.2.leaving, .bool r.2.deferred, .bool r.2.panicking, .int .i64 r.2.panic, .bool r.2.recovered, .int .i64 r.2.outer] : Array Value)[o]?)) (by kernel_rfl) ?_
 refine Last2.tk 0 29 (.agg #[.slice A1 n c1, .int .i64 fuel, .bool r.1.spent, .int .i64 r.1.shared, .int .i64 r.1.made, .int .i64 r.1.deep, .slice A2 r.1.trace.length c2, .slice A3 n3 c3]) S0 ?_
 simp only [Act.put, Last2.s]
 refine Last2.tk 1 30 (.agg #[.int .i64 r.2.f, .int .i64 r.2.depth, .int .i64 r.2.r0, .int .i64 r.2.r1, .int .i64 r.2.r2, .int .i64 r.2.r3, .slice A4 n4 c4, .int .i64 r.2.kind, .int .i64 r.2.value, .bool r.2.leaving, .bool r.2.deferred, .bool r.2.panicking, .int .i64 r.2.panic, .bool r.2.recovered, .int .i64 r.2.outer]) S0 ?_
 simp only [Act.put, Last2.s]
 refine Last2.tk 3 32 (.pointer (some ⟨gm, 3, none⟩)) S0 ?_
 simp only [Act.put, Last2.s]
 refine Last2.tk 4 33 (.int .i64 r.1.shared) S0 ?_
 simp only [Act.put, Last2.s]
 refine Last2.last_one (i := 2) (o := { dst := some 31, op := .call { callee := .value (.func 107), args := #[.tmp 29, .tmp 30], argTypes := #[151, 154] }, type := _, pos := _, after := _, guard := _ }) (by kernel_rfl) rfl rfl (fun K hK => ?_)
 go_simp
 refine (hto.out _).mono ?_
 rintro e w3 ⟨rfl, b3⟩
 have t3 : Below V.heap.size V w3 := (Below.refl _ _).drew.trans b3
 have S1 := HO.out w3 t3
 refine hK.out _ _ (fun _ => S1) ?_
 clear hK K
 try simp only [Act.put, Last2.s]
 have Y9 := hid (V9.out.below t3 V9.out.lt)
 have z9 := Y9.out.cells
 have f9 := Y9.out.frozen
 have hne1 : w.heap.size + 1 ≠ gm := ne_blkF Y9.out (VM.out.below t3 VM.out.lt) (by decide)
 have hne2 : w.heap.size + 1 ≠ gf := ne_blkF Y9.out (VF.out.below t3 VF.out.lt) (by decide)
 unfold outval
 refine Last2.last_one (i := 5) (o := { dst := none, op := .store 56 (.tmp 10) (.tmp 31), type := _, pos := _, after := _, guard := _ }) (by kernel_rfl) rfl rfl (fun K hK => ?_)
 go_simp
 refine hK.out _ _ (fun _ => ?_) ?_
 ·exact ⟨((((VM.out.below t3 VM.out.lt).far ⟨w.heap.size + 1, 0, none⟩ _ hne1.symm).far ⟨w.heap.size + 1, 1, none⟩ _ hne1.symm).far ⟨w.heap.size + 1, 2, none⟩ _ hne1.symm).far ⟨w.heap.size + 1, 3, none⟩ _ hne1.symm |>.cells, ((((VF.out.below t3 VF.out.lt).far ⟨w.heap.size + 1, 0, none⟩ _ hne2.symm).far ⟨w.heap.size + 1, 1, none⟩ _ hne2.symm).far ⟨w.heap.size + 1, 2, none⟩ _ hne2.symm).far ⟨w.heap.size + 1, 3, none⟩ _ hne2.symm |>.cells⟩
 clear hK K
 try simp only [Act.put, Last2.s]
 have BT := hid (VB.out.trans (t3.mono VB.out.size))
 have TT := hid (own_mono (B' := w.heap.size) (own_below VT.out t3 (Nat.le_refl _)) (by omega))
 have S2 : (fun V : World => (∀ o, V.cell? ⟨gm, o, none⟩ = (#[.slice A1 n c1, .int .i64 fuel, .bool r.1.spent, .int .i64 r.1.shared, .int .i64 r.1.made, .int .i64 r.1.deep, .slice A2 r.1.trace.length c2, .slice A3 n3 c3] : Array Value)[o]?) ∧ (∀ o, V.cell? ⟨gf, o, none⟩ = (#[.int .i64 r.2.f, .int .i64 r.2.depth, .int .i64 r.2.r0, .int .i64 r.2.r1, .int .i64 r.2.r2, .int .i64 r.2.r3, .slice A4 n4 c4, .int .i64 r.2.kind, .int .i64 r.2.value, .bool r.2.leaving, .bool r.2.deferred, .bool r.2.panicking, .int .i64 r.2.panic, .bool r.2.recovered, .int .i64 r.2.outer] : Array Value)[o]?)) ((((w3.setCell ⟨w.heap.size + 1, 0, none⟩ (.int .i64 (told (r.1, r.2)).kind)).setCell ⟨w.heap.size + 1, 1, none⟩ (.int .i64 (told (r.1, r.2)).value)).setCell ⟨w.heap.size + 1, 2, none⟩ (.slice A2 r.1.trace.length c2)).setCell ⟨w.heap.size + 1, 3, none⟩ (.int .i64 (told (r.1, r.2)).spent)) :=
  ⟨((((VM.out.below t3 VM.out.lt).far ⟨w.heap.size + 1, 0, none⟩ _ hne1.symm).far ⟨w.heap.size + 1, 1, none⟩ _ hne1.symm).far ⟨w.heap.size + 1, 2, none⟩ _ hne1.symm).far ⟨w.heap.size + 1, 3, none⟩ _ hne1.symm |>.cells, ((((VF.out.below t3 VF.out.lt).far ⟨w.heap.size + 1, 0, none⟩ _ hne2.symm).far ⟨w.heap.size + 1, 1, none⟩ _ hne2.symm).far ⟨w.heap.size + 1, 2, none⟩ _ hne2.symm).far ⟨w.heap.size + 1, 3, none⟩ _ hne2.symm |>.cells⟩
 refine Last2.last_take (i := 6) (d := some 11) (v := .int .i64 r.1.shared) rfl rfl (by kernel_rfl) (by kernel_rfl) (by kernel_rfl) (fun _ _ _ h => h) rfl (by kernel_rfl) (by kernel_rfl) rfl ?_ S2 ?_
 ·(intro V hV; (try dsimp only at hV); go_simp; try with_reducible rfl)
 simp only [Act.put, Last2.s]
 refine Last2.last_done (by kernel_rfl) ?_ _
 clear S0 S1 S2 z9 f9
 change (fun V => Exit.then _ _ _ _ V) _
 refine gen_world (X := fun W => Blk W (w.heap.size + 1) 56 #[.int .i64 (told r).kind, .int .i64 (told r).value, .slice A2 r.1.trace.length c2, .int .i64 (told r).spent] ∧ Tre W w.heap.size (.slice A2 r.1.trace.length c2) r.1.trace ∧ Below w.heap.size w W) ?_ ?_
 ·have n2 := blk_apart TT.out Y9.out (by decide)
  refine ⟨Blk.set4 Y9.out _ _ _ _, ?_, ?_⟩
  ·iterate 4 refine own_far ?_ _ _ n2
   exact TT.out
  ·iterate 4 refine Below.setCell ?_ (Nat.le_succ _) _
   exact BT.out
 clear Y9 TT BT t3 b3 hne1 hne2
 intro W hV
 have V1 := hV.1.cells
 have HV := hid hV.2
 clear hV
 go_wp2_with fail
 exact bodyPost_ret (v := .tuple #[outval (told r) (.slice A2 r.1.trace.length c2), .int .i64 r.1.shared]) (by simp [results, Try.results79, go_sem, V1, outval]) rfl ⟨A2, c2, rfl, HV.out.1, HV.out.2⟩
end Go.Proofs.Ythejnpignlhgiaa.Frs
-- squeezed
