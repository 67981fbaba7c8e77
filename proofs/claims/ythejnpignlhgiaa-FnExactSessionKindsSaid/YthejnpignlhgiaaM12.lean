import Derived.Test.YthejnpignlhgiaaScallA
import Derived.Test.YthejnpignlhgiaaScallB
import Derived.Test.YthejnpignlhgiaaScallC
import Derived.Test.YthejnpignlhgiaaM11
import Derived.Test.YthejnpignlhgiaaM8
set_option linter.all false
namespace Go.Proofs.Ythejnpignlhgiaa.Scall
open Go.ChangeShapes Go.WideShapes Go.ChangeAt Go.RowKit
open PL Mem Srun Sst Ssim
open Smk Scall0
theorem call_step (lo : Nat) (Ap : Option Addr) (np cp : Nat) (p : Pg) (fuel : Int) (hp : okProg p = true) (hn : p.length = np) (D : Int) (hD0 : 1 ≤ D ∧ D ≤ 8) (inner : PL.Call) (hg : PL.Good np fuel (D + 1) inner) (hok : CallOkN lo Ap np cp p fuel np (D + 1) inner) :
  CallOkN lo Ap np cp p fuel np D (fun m c => afterB inner (body inner (p.getD c.f.toNat []) fuel (fuel.toNat + 1) (begin_ m c) { c with kind := 1 } 0)) := by
 intro K m c tv sv w hm hK hc hD hds hrd he hlo hsp0
 cases h1 : (body inner (p.getD c.f.toNat []) fuel (fuel.toNat + 1) (begin_ m c) { c with kind := 1 } 0).1.spent with
 | true => exact ScallA.call_a lo Ap np cp p fuel hp hn D hD0 inner hg hok K m c tv sv w hm hK hc hD hds hrd he hlo hsp0 h1
 | false =>
  cases h2 : (afterB inner (body inner (p.getD c.f.toNat []) fuel (fuel.toNat + 1) (begin_ m c) { c with kind := 1 } 0)).1.spent with
  | true => exact ScallB.call_b lo Ap np cp p fuel hp hn D hD0 inner hg hok K m c tv sv w hm hK hc hD hds hrd he hlo hsp0 h1 h2
  | false => exact ScallC.call_c lo Ap np cp p fuel hp hn D hD0 inner hg hok K m c tv sv w hm hK hc hD hds hrd he hlo hsp0 h1 h2
theorem call_all (lo : Nat) (Ap : Option Addr) (np cp : Nat) (p : Pg) (fuel : Int) (hp : okProg p = true) (hn : p.length = np) : ∀ d : Nat, d ≤ 8 → CallOkN lo Ap np cp p fuel np (9 - d) (PL.call p fuel d)
 | 0, _ => call_deep lo Ap np cp p fuel np
 | d + 1, hd => by
  have h := call_all lo Ap np cp p fuel hp hn d (by omega)
  have hg := call_good hp (fuel := fuel) d (by omega)
  rw [hn] at hg
  have e : (9 : Int) - d = (9 - ((d + 1 : Nat) : Int)) + 1 := by omega
  rw [e] at h hg
  exact call_step lo Ap np cp p fuel hp hn (9 - ((d + 1 : Nat) : Int)) ⟨by omega, by omega⟩ (PL.call p fuel d) hg h
end Go.Proofs.Ythejnpignlhgiaa.Scall

namespace Go.Proofs.Ythejnpignlhgiaa.Swhole
open Lib (hid)
open Go.ChangeShapes Go.WideShapes Go.ChangeAt Go.RowKit
open PL Mem Srun Sst Ssim Smk To OwnS AskP Res
theorem start_wf {n : Nat} {p : Pg} {f arg fuel : Int} (h : asks p f arg fuel = true) : okProg p = true ∧ 0 ≤ f ∧ f < p.length ∧ N16 arg ∧ 0 ≤ fuel ∧ fuel ≤ 200 := by
 unfold asks isFn at h
 simp only [Bool.and_eq_true, decide_eq_true_eq] at h
 obtain ⟨⟨⟨⟨⟨h1, h2⟩, h3⟩, h4⟩, h5⟩, h6⟩ := h
 exact ⟨h1, h2, h3, isNum_iff h4, h5, h6⟩
theorem start_m {fuel K : Int} (h0 : 0 ≤ fuel) (h2 : fuel ≤ 200) (hK : 600 ≤ K) : WfM fuel K PL.start :=
 {made0 := by show (0 : Int) ≤ 0; omega, made1 := h0, fuel1 := h2, shared := N16_0, deep0 := by show (0 : Int) ≤ 0; omega, deep1 := by show (0 : Int) ≤ 8; omega, seen := rfl, pot := by show ((([] : List Tr).length : Nat) : Int) + 3 * (fuel - 0) ≤ K; simp; omega }
theorem gen_post {X : World → Prop} {P : Program} {fn : Func} {R : Ending → World → Prop} {e : Exit} {a : Act} {W : World} (hx : X W) (h : ∀ V, X V → bodyPost P fn R e a V) : bodyPost P fn R e a W := h W hx
theorem outsT {w W : World} {B lo g3 g4 : Nat} {vp tv sv dv : Value} {fuel : Int} {m : M} {c : Fr} (ht : Tre W lo tv m.trace) (hb : Below B w W) (b3 : Blk W g3 151 mz) (b4 : Blk W g4 154 fz) (h3 : B ≤ g3) (h4 : B ≤ g4) (hne : g3 ≠ g4) :
  Tre (((((((((((((((((((((((((W).setCell ⟨g3, 0, none⟩ vp).setCell ⟨g3, 1, none⟩ (.int .i64 fuel)).setCell ⟨g3, 2, none⟩ (.bool m.spent)).setCell ⟨g3, 3, none⟩ (.int .i64 m.shared)).setCell ⟨g3, 4, none⟩ (.int .i64 m.made)).setCell ⟨g3, 5, none⟩ (.int .i64 m.deep)).setCell ⟨g3, 6, none⟩ tv).setCell ⟨g3, 7, none⟩ sv)).setCell ⟨g4, 0, none⟩ (.int .i64 c.f)).setCell ⟨g4, 1, none⟩ (.int .i64 c.depth)).setCell ⟨g4, 2, none⟩ (.int .i64 c.r0)).setCell ⟨g4, 3, none⟩ (.int .i64 c.r1)).setCell ⟨g4, 4, none⟩ (.int .i64 c.r2)).setCell ⟨g4, 5, none⟩ (.int .i64 c.r3)).setCell ⟨g4, 6, none⟩ dv).setCell ⟨g4, 7, none⟩ (.int .i64 c.kind)).setCell ⟨g4, 8, none⟩ (.int .i64 c.value)).setCell ⟨g4, 9, none⟩ (.bool c.leaving)).setCell ⟨g4, 10, none⟩ (.bool c.deferred)).setCell ⟨g4, 11, none⟩ (.bool c.panicking)).setCell ⟨g4, 12, none⟩ (.int .i64 c.panic)).setCell ⟨g4, 13, none⟩ (.bool c.recovered)).setCell ⟨g4, 14, none⟩ (.int .i64 c.outer)) lo tv m.trace ∧ Below B w (((((((((((((((((((((((((W).setCell ⟨g3, 0, none⟩ vp).setCell ⟨g3, 1, none⟩ (.int .i64 fuel)).setCell ⟨g3, 2, none⟩ (.bool m.spent)).setCell ⟨g3, 3, none⟩ (.int .i64 m.shared)).setCell ⟨g3, 4, none⟩ (.int .i64 m.made)).setCell ⟨g3, 5, none⟩ (.int .i64 m.deep)).setCell ⟨g3, 6, none⟩ tv).setCell ⟨g3, 7, none⟩ sv)).setCell ⟨g4, 0, none⟩ (.int .i64 c.f)).setCell ⟨g4, 1, none⟩ (.int .i64 c.depth)).setCell ⟨g4, 2, none⟩ (.int .i64 c.r0)).setCell ⟨g4, 3, none⟩ (.int .i64 c.r1)).setCell ⟨g4, 4, none⟩ (.int .i64 c.r2)).setCell ⟨g4, 5, none⟩ (.int .i64 c.r3)).setCell ⟨g4, 6, none⟩ dv).setCell ⟨g4, 7, none⟩ (.int .i64 c.kind)).setCell ⟨g4, 8, none⟩ (.int .i64 c.value)).setCell ⟨g4, 9, none⟩ (.bool c.leaving)).setCell ⟨g4, 10, none⟩ (.bool c.deferred)).setCell ⟨g4, 11, none⟩ (.bool c.panicking)).setCell ⟨g4, 12, none⟩ (.int .i64 c.panic)).setCell ⟨g4, 13, none⟩ (.bool c.recovered)).setCell ⟨g4, 14, none⟩ (.int .i64 c.outer)) ∧ Blk (((((((((((((((((((((((((W).setCell ⟨g3, 0, none⟩ vp).setCell ⟨g3, 1, none⟩ (.int .i64 fuel)).setCell ⟨g3, 2, none⟩ (.bool m.spent)).setCell ⟨g3, 3, none⟩ (.int .i64 m.shared)).setCell ⟨g3, 4, none⟩ (.int .i64 m.made)).setCell ⟨g3, 5, none⟩ (.int .i64 m.deep)).setCell ⟨g3, 6, none⟩ tv).setCell ⟨g3, 7, none⟩ sv)).setCell ⟨g4, 0, none⟩ (.int .i64 c.f)).setCell ⟨g4, 1, none⟩ (.int .i64 c.depth)).setCell ⟨g4, 2, none⟩ (.int .i64 c.r0)).setCell ⟨g4, 3, none⟩ (.int .i64 c.r1)).setCell ⟨g4, 4, none⟩ (.int .i64 c.r2)).setCell ⟨g4, 5, none⟩ (.int .i64 c.r3)).setCell ⟨g4, 6, none⟩ dv).setCell ⟨g4, 7, none⟩ (.int .i64 c.kind)).setCell ⟨g4, 8, none⟩ (.int .i64 c.value)).setCell ⟨g4, 9, none⟩ (.bool c.leaving)).setCell ⟨g4, 10, none⟩ (.bool c.deferred)).setCell ⟨g4, 11, none⟩ (.bool c.panicking)).setCell ⟨g4, 12, none⟩ (.int .i64 c.panic)).setCell ⟨g4, 13, none⟩ (.bool c.recovered)).setCell ⟨g4, 14, none⟩ (.int .i64 c.outer)) g3 151 (mcells vp fuel m tv sv) ∧ Blk (((((((((((((((((((((((((W).setCell ⟨g3, 0, none⟩ vp).setCell ⟨g3, 1, none⟩ (.int .i64 fuel)).setCell ⟨g3, 2, none⟩ (.bool m.spent)).setCell ⟨g3, 3, none⟩ (.int .i64 m.shared)).setCell ⟨g3, 4, none⟩ (.int .i64 m.made)).setCell ⟨g3, 5, none⟩ (.int .i64 m.deep)).setCell ⟨g3, 6, none⟩ tv).setCell ⟨g3, 7, none⟩ sv)).setCell ⟨g4, 0, none⟩ (.int .i64 c.f)).setCell ⟨g4, 1, none⟩ (.int .i64 c.depth)).setCell ⟨g4, 2, none⟩ (.int .i64 c.r0)).setCell ⟨g4, 3, none⟩ (.int .i64 c.r1)).setCell ⟨g4, 4, none⟩ (.int .i64 c.r2)).setCell ⟨g4, 5, none⟩ (.int .i64 c.r3)).setCell ⟨g4, 6, none⟩ dv).setCell ⟨g4, 7, none⟩ (.int .i64 c.kind)).setCell ⟨g4, 8, none⟩ (.int .i64 c.value)).setCell ⟨g4, 9, none⟩ (.bool c.leaving)).setCell ⟨g4, 10, none⟩ (.bool c.deferred)).setCell ⟨g4, 11, none⟩ (.bool c.panicking)).setCell ⟨g4, 12, none⟩ (.int .i64 c.panic)).setCell ⟨g4, 13, none⟩ (.bool c.recovered)).setCell ⟨g4, 14, none⟩ (.int .i64 c.outer)) g4 154 (fcells c dv) := by
 have n3 := blk_apart ht b3 (by decide)
 have n4 := blk_apart ht b4 (by decide)
 refine ⟨?_, ?_, ?_, ?_⟩
 ·iterate 15 refine own_far ?_ _ _ n4
  iterate 8 refine own_far ?_ _ _ n3
  exact ht
 ·iterate 15 refine Below.setCell ?_ h4 _
  iterate 8 refine Below.setCell ?_ h3 _
  exact hb
 ·iterate 15 refine Blk.far ?_ _ _ hne
  exact Blk.set8 (a0 := .slice none 0 0) (a1 := .int .i64 0) (a2 := .bool false) (a3 := .int .i64 0) (a4 := .int .i64 0) (a5 := .int .i64 0) (a6 := .slice none 0 0) (a7 := .slice none 0 0) b3 _ _ _ _ _ _ _ _
 ·refine Blk.set15 (a0 := .int .i64 0) (a1 := .int .i64 0) (a2 := .int .i64 0) (a3 := .int .i64 0) (a4 := .int .i64 0) (a5 := .int .i64 0) (a6 := .slice none 0 0) (a7 := .int .i64 0) (a8 := .int .i64 0) (a9 := .bool false) (a10 := .bool false) (a11 := .bool false) (a12 := .int .i64 0) (a13 := .bool false) (a14 := .int .i64 0) ?_ _ _ _ _ _ _ _ _ _ _ _ _ _ _ _
  iterate 8 refine Blk.far ?_ _ _ hne.symm
  exact b4
def WholeR (r : M × Fr) (fuel : Int) (w : World) (e : Ending) (w' : World) : Prop :=
 ∃ A1 n1 c1 A2 c2 A3 n3 c3 A4 n4 c4, e = .returned (.tuple #[mval (.slice A1 n1 c1) fuel r.1 (.slice A2 r.1.trace.length c2) (.slice A3 n3 c3), fval r.2 (.slice A4 n4 c4)]) ∧ Tre w' w.heap.size (.slice A2 r.1.trace.length c2) r.1.trace ∧ Below w.heap.size w w'
set_option maxRecDepth 100000 in
set_option maxHeartbeats 4000000 in
theorem whole_any (lo n c : Nat) (A : Option Addr) (p : Pg) (f arg fuel : Int) (hl : p.length = n) (hsm : Small p 100) (hn : n ≤ 100) (ha : asks p f arg fuel = true) (w : World) (ho : OwnP w lo (.slice A n c) p) :
  Calls Try.prog 106 #[.agg #[.slice A n c], .int .i64 f, .int .i64 arg, .int .i64 fuel] w (WholeR (whole p fuel f arg) fuel w) := by
 obtain ⟨hok, f0, f1, ha, hf0, hf2⟩ := start_wf (n := n) ha
 have hown := hid (fun W (h : Below w.heap.size w W) => l2Own_any lo n c A p hn hl hsm W (ho.below h))
 have hcall := hid (fun (lo : Nat) (Ap : Option Addr) (cp : Nat) => Scall.call_all lo Ap n cp p fuel hok hl 8 (by decide))
 have hwm := hid (start_m (K := 3000) hf0 hf2 (by decide))
 have hwf := hid (newFrame_wf (N := (n : Int)) f 1 arg f0 (by rw [← hl]; exact f1) ha)
 unfold whole
 clear ho ha hok f0 f1 hf0 hf2 hsm
 go_enter Try.func106, Try.ntmps106
 go_wp2_with fail
 refine (hown.out _ ((((Below.refl _ _).alloc (Nat.le_refl _) _).alloc (by simp) _).alloc (by simp <;> omega) _)).mono ?_
 rintro e w1 ⟨A1, c1, rfl, o1, b1⟩
 have hsz : w.heap.size + 3 ≤ w1.heap.size := by have := b1.size; simp at this; omega
 have hbw : Below w.heap.size w w1 := ((((Below.refl _ _).alloc (Nat.le_refl _) _).alloc (by simp) _).alloc (by simp <;> omega) _).trans (b1.mono (by simp <;> omega))
 have B8 : Blk w1 (w.heap.size + 1) 151 mz := Blk.below (heap3_1 w _ _ _) b1 (by simp <;> omega)
 have B9 : Blk w1 (w.heap.size + 1 + 1) 154 fz := Blk.below (heap3_2 w _ _ _) b1 (by simp <;> omega)
 have r1 := o1.rd
 have HB8 := hid B8
 have HB9 := hid B9
 have HR1 := hid r1
 have HBW := hid hbw
 clear hown B8 B9 r1 hbw o1 b1
 go_upto_region 2 with fail
 change (fun V => Code.wp _ _ _ _ V) _
 refine gen_world (X := fun V => Blk V (w.heap.size + 1) 151 mz ∧ Blk V (w.heap.size + 1 + 1) 154 fz ∧ RdP V w1.heap.size A1 p ∧ Below w.heap.size w V ∧ Tre V w1.heap.size (.slice (some ⟨w1.heap.size, 0, none⟩) 0 0) [] ∧ w1.heap.size ≤ V.heap.size ∧
  Blk V (w1.heap.size + 1) 151 #[.slice A1 n c1, .int .i64 fuel, .bool false, .int .i64 0, .int .i64 0, .int .i64 0, .slice (some ⟨w1.heap.size, 0, none⟩) 0 0, .slice none 0 0]) ?_ ?_
 ·have ba : Below w1.heap.size w1 ((w1.alloc (.cells #[] 94)).alloc (.cells #[.slice A1 n c1, .int .i64 fuel, .bool false, .int .i64 0, .int .i64 0, .int .i64 0, .slice (some ⟨w1.heap.size, 0, none⟩) 0 0, .slice none 0 0] 151)) := ((Below.refl _ _).alloc (Nat.le_refl _) _).alloc (by simp) _
  exact ⟨(HB8.out.alloc _).alloc _, (HB9.out.alloc _).alloc _, HR1.out.below ba, HBW.out.trans (ba.mono (by omega)), App.empty_own (heap2_0 w1 _ _) (Nat.le_refl _), by simp only [World.size_alloc]; omega, heap2_1 w1 _ _⟩
 clear HB8 HB9 HR1 HBW
 intro V hV
 obtain ⟨v8, v9, vr, vb, vt, vs, vm⟩ := hV
 have hc := hcall.out w1.heap.size A1 c1 3000 PL.start (newFrame f 1 arg) (.slice (some ⟨w1.heap.size, 0, none⟩) 0 0) (.slice none 0 0) V hwm.out (by decide) hwf.out rfl rfl vr ⟨vt, World.ownsRow_nil _ _ _ _, World.ownsRow_nil _ _ _ _, Chg.refl _ _, fun _ h => .inl h, fun _ h => .inl h, fun x hx => by simp [Value.ownBlock] at hx⟩ vs rfl
 generalize PL.call p fuel 8 PL.start (newFrame f 1 arg) = r at *
 unfold Ret mval fval at hc
 dsimp only [PL.start, newFrame] at hc
 have HC := hid hc
 have z := vm.cells
 have V8 := hid v8
 have V9 := hid v9
 have VT := hid vt
 have VB := hid vb
 clear hc hcall hwm hwf v8 v9 vr vb vt vs vm
 go_wp2_with fail
 refine HC.out.mono ?_
 rintro e w2 ⟨tv2, sv2, dv2, rfl, hk⟩
 obtain ⟨A2, c2, rfl⟩ := own_slice hk.tre
 obtain ⟨A3, n3, c3, rfl⟩ := prs_slice hk.prs
 obtain ⟨A4, n4, c4, rfl⟩ := prs_slice hk.dfs
 have y8 := Lef.blk (m := PL.start) hk VT.out (World.ownsRow_nil _ _ _ _) V8.out (by decide) (by decide)
 have y9 := Lef.blk (m := PL.start) hk VT.out (World.ownsRow_nil _ _ _ _) V9.out (by decide) (by decide)
 have hbe : Below w.heap.size w w2 := VB.out.trans (hk.chg.below VB.out.size (fun x hx hc => by
  rcases hc with hc | hc
  ·have : w1.heap.size = x := by simpa [Value.ownBlock] using hc
   omega
  ·simp [Value.ownBlock] at hc))
 have Y8 := hid y8
 have Y9 := hid y9
 have BE := hid hbe
 have HK := hid hk
 have z8 := y8.cells
 have f8 := y8.frozen
 have z9 := y9.cells
 have f9 := y9.frozen
 unfold mz at z8
 unfold fz at z9
 clear z y8 y9 hbe hk HC V8 V9 VT VB
 go_wp2_with fail
 refine gen_post (X := fun V => Tre V w1.heap.size (.slice A2 r.1.trace.length c2) r.1.trace ∧ Below w.heap.size w V ∧ Blk V (w.heap.size + 1) 151 (mcells (.slice A1 n c1) fuel r.1 (.slice A2 r.1.trace.length c2) (.slice A3 n3 c3)) ∧ Blk V (w.heap.size + 1 + 1) 154 (fcells r.2 (.slice A4 n4 c4))) (outsT (vp := .slice A1 n c1) (tv := .slice A2 r.1.trace.length c2) (sv := .slice A3 n3 c3) (dv := .slice A4 n4 c4) (fuel := fuel) (m := r.1) (c := r.2) HK.out.tre BE.out Y8.out Y9.out (by omega) (by omega) (by omega)) ?_
 clear z8 z9 f8 f9 Y8 Y9
 intro V hV
 have HV := hid hV
 have V1 := hV.2.2.1.cells
 have V2 := hV.2.2.2.cells
 clear hV
 unfold mcells at V1
 unfold fcells at V2
 exact bodyPost_ret (v := .tuple #[mval (.slice A1 n c1) fuel r.1 (.slice A2 r.1.trace.length c2) (.slice A3 n3 c3), fval r.2 (.slice A4 n4 c4)]) (by simp [results, Try.results106, go_sem, V1, V2, mval, fval]) rfl ⟨_, _, _, _, _, _, _, _, _, _, _, rfl, own_mono HV.out.1 (by omega), HV.out.2.1⟩
end Go.Proofs.Ythejnpignlhgiaa.Swhole

namespace Go.Proofs.Ythejnpignlhgiaa.Sout
open Lib (hid)
open Go.ChangeShapes Go.WideShapes Go.ChangeAt Go.RowKit
open PL Mem Srun Sst Ssim Smk To OwnS AskP Res Swhole
def outval (o : Out) (tv : Value) : Value := .agg #[.int .i64 o.kind, .int .i64 o.value, tv, .int .i64 o.spent]
set_option maxRecDepth 100000 in
set_option maxHeartbeats 4000000 in
theorem told_any (vp tv sv dv : Value) (fuel : Int) (m : M) (c : Fr) (hvp : ∃ A n c, vp = .slice A n c) (htv : ∃ A n c, tv = .slice A n c) (hsv : ∃ A n c, sv = .slice A n c) (hdv : ∃ A n c, dv = .slice A n c) (w : World) :
  Calls Try.prog 107 #[mval vp fuel m tv sv, fval c dv] w fun e w' => e = .returned (outval (told (m, c)) tv) ∧ Below w.heap.size w w' := by
 obtain ⟨A1, n1, c1, rfl⟩ := hvp
 obtain ⟨A2, n2, c2, rfl⟩ := htv
 obtain ⟨A3, n3, c3, rfl⟩ := hsv
 obtain ⟨A4, n4, c4, rfl⟩ := hdv
 have hb : ∀ o1 o2 o3 o4, Below w.heap.size w ((((w.alloc o1).alloc o2).alloc o3).alloc o4) := fun o1 o2 o3 o4 => ((((Below.refl _ _).alloc (Nat.le_refl _) _).alloc (by simp) _).alloc (by simp <;> omega) _).alloc (by simp <;> omega) _
 have HB := hid hb
 clear hb
 cases hs : m.spent with
 | true =>
  have HT := hid (show outval (told (m, c)) (.slice A2 n2 c2) = .agg #[.int .i64 4, .int .i64 0, .slice A2 n2 c2, .int .i64 m.made] by unfold outval told; dsimp only; rw [hs]; rfl)
  unfold mval fval
  rw [hs]
  clear hs
  go_enter Try.func107, Try.ntmps107
  go_wp2_with fail
  refine gen_post (X := fun V => Blk V (w.heap.size + 1 + 1) 56 #[.int .i64 4, .int .i64 0, .slice A2 n2 c2, .int .i64 m.made] ∧ Below w.heap.size w V) ⟨heap4_2 w _ _ _ _, HB.out _ _ _ _⟩ ?_
  intro V hV
  have V1 := hV.1.cells
  exact bodyPost_ret (v := .agg #[.int .i64 4, .int .i64 0, .slice A2 n2 c2, .int .i64 m.made]) (by simp [results, Try.results107, go_sem, V1]) rfl ⟨by rw [HT.out], hV.2⟩
 | false =>
  by_cases k1 : c.kind = 1
  ·have HT := hid (show outval (told (m, c)) (.slice A2 n2 c2) = .agg #[.int .i64 1, .int .i64 c.r1, .slice A2 n2 c2, .int .i64 m.made] by unfold outval told; dsimp only; rw [hs, k1]; rfl)
   unfold mval fval
   rw [hs, k1]
   clear hs k1
   go_enter Try.func107, Try.ntmps107
   go_wp2_with fail
   refine gen_post (X := fun V => Blk V (w.heap.size + 1 + 1) 56 #[.int .i64 1, .int .i64 c.r1, .slice A2 n2 c2, .int .i64 m.made] ∧ Below w.heap.size w V) ⟨heap4_2 w _ _ _ _, HB.out _ _ _ _⟩ ?_
   intro V hV
   have V1 := hV.1.cells
   exact bodyPost_ret (v := .agg #[.int .i64 1, .int .i64 c.r1, .slice A2 n2 c2, .int .i64 m.made]) (by simp [results, Try.results107, go_sem, V1]) rfl ⟨by rw [HT.out], hV.2⟩
  ·by_cases k2 : c.kind = 2
   ·have HT := hid (show outval (told (m, c)) (.slice A2 n2 c2) = .agg #[.int .i64 2, .int .i64 c.value, .slice A2 n2 c2, .int .i64 m.made] by unfold outval told; dsimp only; rw [hs, k2]; rfl)
    unfold mval fval
    rw [hs, k2]
    clear hs k1 k2
    go_enter Try.func107, Try.ntmps107
    go_wp2_with fail
    refine gen_post (X := fun V => Blk V (w.heap.size + 1 + 1) 56 #[.int .i64 2, .int .i64 c.value, .slice A2 n2 c2, .int .i64 m.made] ∧ Below w.heap.size w V) ⟨heap4_2 w _ _ _ _, HB.out _ _ _ _⟩ ?_
    intro V hV
    have V1 := hV.1.cells
    exact bodyPost_ret (v := .agg #[.int .i64 2, .int .i64 c.value, .slice A2 n2 c2, .int .i64 m.made]) (by simp [results, Try.results107, go_sem, V1]) rfl ⟨by rw [HT.out], hV.2⟩
   ·have b1 : (c.kind == 1) = false := by simpa using k1
    have b2 : (c.kind == 2) = false := by simpa using k2
    have k3 : (if c.kind = 1 then c.r1 else if c.kind = 2 then c.value else 0) = 0 := by rw [if_neg k1, if_neg k2]
    have HT := hid (show outval (told (m, c)) (.slice A2 n2 c2) = .agg #[.int .i64 c.kind, .int .i64 0, .slice A2 n2 c2, .int .i64 m.made] by unfold outval told; dsimp only; rw [hs, k3]; rfl)
    unfold mval fval
    rw [hs]
    clear hs k1 k2 k3
    go_enter Try.func107, Try.ntmps107
    go_wp2_with fail
    refine gen_post (X := fun V => Blk V (w.heap.size + 1 + 1) 56 #[.int .i64 c.kind, .int .i64 0, .slice A2 n2 c2, .int .i64 m.made] ∧ Below w.heap.size w V) ⟨heap4_2 w _ _ _ _, HB.out _ _ _ _⟩ ?_
    intro V hV
    have V1 := hV.1.cells
    exact bodyPost_ret (v := .agg #[.int .i64 c.kind, .int .i64 0, .slice A2 n2 c2, .int .i64 m.made]) (by simp [results, Try.results107, go_sem, V1]) rfl ⟨by rw [HT.out], hV.2⟩
theorem Blk.set4 {w : World} {g : Nat} {t : TypeId} {a0 a1 a2 a3 : Value} (h : Blk w g t #[a0, a1, a2, a3]) (u0 u1 u2 u3 : Value) : Blk ((((w.setCell ⟨g, 0, none⟩ u0).setCell ⟨g, 1, none⟩ u1).setCell ⟨g, 2, none⟩ u2).setCell ⟨g, 3, none⟩ u3) g t #[u0, u1, u2, u3] := by
 have := (((h.put 0 u0).put 1 u1).put 2 u2).put 3 u3
 simpa only [List.setIfInBounds_toArray, List.set_cons_zero, List.set_cons_succ] using this
def RunR (o : Out) (w : World) (e : Ending) (w' : World) : Prop :=
 ∃ A c, e = .returned (outval o (.slice A o.trace.length c)) ∧ Tre w' w.heap.size (.slice A o.trace.length c) o.trace ∧ Below w.heap.size w w'
set_option maxRecDepth 100000 in
set_option maxHeartbeats 4000000 in
theorem l2Run_any (lo n c : Nat) (A : Option Addr) (p : Pg) (f arg fuel : Int) (hl : p.length = n) (hsm : Small p 100) (hn : n ≤ 100) (ha : asks p f arg fuel = true) (w : World) (ho : OwnP w lo (.slice A n c) p) :
  Calls Try.prog 71 #[.agg #[.slice A n c], .int .i64 f, .int .i64 arg, .int .i64 fuel] w (RunR (run p fuel f arg) w) := by
 have hw := hid (fun W (h : Below w.heap.size w W) => whole_any lo n c A p f arg fuel hl hsm hn ha W (ho.below h))
 unfold run
 generalize whole p fuel f arg = r at *
 clear ho ha hsm
 go_enter Try.func71, Try.ntmps71
 go_wp2_with fail
 refine (hw.out _ (((Below.refl _ _).alloc (Nat.le_refl _) _).alloc (by simp) _)).mono ?_
 rintro e w1 ⟨A1, n1, c1, A2, c2, A3, n3, c3, A4, n4, c4, rfl, ht, hb⟩
 have hto := hid (fun W => told_any (.slice A1 n1 c1) (.slice A2 r.1.trace.length c2) (.slice A3 n3 c3) (.slice A4 n4 c4) fuel r.1 r.2 ⟨_, _, _, rfl⟩ ⟨_, _, _, rfl⟩ ⟨_, _, _, rfl⟩ ⟨_, _, _, rfl⟩ W)
 unfold mval fval at hto ⊢
 have hbw : Below w.heap.size w w1 := ((((Below.refl _ _).alloc (Nat.le_refl _) _).alloc (by simp) _)).trans (hb.mono (by simp <;> omega))
 have HT := hid ht
 have HBW := hid hbw
 have HR := hid (Blk.below (heap2_1 w _ _) hb (by simp))
 have HS := hid hb.size
 clear ht hb hbw hw
 go_upto_region 2 with fail
 change (fun V => Code.wp _ _ _ _ V) _
 refine gen_world (X := fun V => Blk V w1.heap.size 151 (mcells (.slice A1 n1 c1) fuel r.1 (.slice A2 r.1.trace.length c2) (.slice A3 n3 c3)) ∧ Blk V (w1.heap.size + 1) 154 (fcells r.2 (.slice A4 n4 c4)) ∧ Blk V (w.heap.size + 1) 56 #[.int .i64 0, .int .i64 0, .slice none 0 0, .int .i64 0] ∧
  Tre V w.heap.size (.slice A2 r.1.trace.length c2) r.1.trace ∧ Below w.heap.size w V) ⟨heap2_0 w1 _ _, heap2_1 w1 _ _, (HR.out.alloc _).alloc _, World.ownsRow.alloc (World.ownsRow.alloc (own_mono HT.out (by simp <;> omega)) _) _, (HBW.out.alloc (by have := HBW.out.size; omega) _).alloc (by have := HBW.out.size; simp; omega) _⟩ ?_
 clear HT HBW HR HS
 intro V hV
 obtain ⟨v0, v1, v2, v3, v4⟩ := hV
 have V2 := hid v2
 have V3 := hid v3
 have V4 := hid v4
 have z0 := v0.cells
 have z1 := v1.cells
 unfold mcells at z0
 unfold fcells at z1
 clear v0 v1 v2 v3 v4
 go_wp2_with fail
 refine (hto.out _).mono ?_
 rintro e w3 ⟨rfl, b3⟩
 unfold outval
 have y2 := V2.out.below b3 V2.out.lt
 have c2' := y2.cells
 have f2 := y2.frozen
 have Y2 := hid y2
 have Y3 := hid (own_below V3.out b3 (Nat.le_refl _))
 have Y4 := hid (V4.out.trans (b3.mono V4.out.size))
 clear y2 V2 V3 V4 z0 z1 b3 hto
 go_wp2_with fail
 refine gen_post (X := fun V => Blk V (w.heap.size + 1) 56 #[.int .i64 (told r).kind, .int .i64 (told r).value, .slice A2 r.1.trace.length c2, .int .i64 (told r).spent] ∧ Tre V w.heap.size (.slice A2 r.1.trace.length c2) r.1.trace ∧ Below w.heap.size w V) ?_ ?_
 ·have n2 := blk_apart Y3.out Y2.out (by decide)
  refine ⟨Blk.set4 Y2.out _ _ _ _, ?_, ?_⟩
  ·iterate 4 refine own_far ?_ _ _ n2
   exact Y3.out
  ·iterate 4 refine Below.setCell ?_ (Nat.le_succ _) _
   exact Y4.out
 clear c2' f2 Y2 Y3 Y4
 intro V hV
 have V1 := hV.1.cells
 have HV := hid hV.2
 clear hV
 exact bodyPost_ret (v := .agg #[.int .i64 (told r).kind, .int .i64 (told r).value, .slice A2 r.1.trace.length c2, .int .i64 (told r).spent]) (by simp [results, Try.results71, go_sem, V1]) rfl ⟨A2, c2, rfl, HV.out.1, HV.out.2⟩
theorem okProg_small {p : Pg} (h : okProg p = true) : p.length ≤ 6 ∧ Small p 8 := by
 refine ⟨?_, ?_⟩
 ·unfold okProg at h
  simp at h
  omega
 ·intro i b hb
  exact (okProg_body h hb).1
def runR (p : Pg) (f arg fuel : Int) : Out × Bool := if asks p f arg fuel then (run p fuel f arg, true) else ({ kind := 0, value := 0, trace := [], spent := 0 }, false)
def OutR (r : Out × Bool) (w : World) (e : Ending) (w' : World) : Prop :=
 ∃ A c, e = .returned (.tuple #[outval r.1 (.slice A r.1.trace.length c), .bool r.2]) ∧ Tre w' w.heap.size (.slice A r.1.trace.length c) r.1.trace ∧ Below w.heap.size w w'
end Go.Proofs.Ythejnpignlhgiaa.Sout

namespace Go.Proofs.Ythejnpignlhgiaa.RunF
open PL Mem Swhole Sout AskP
theorem whole_wf {p : Pg} {f arg fuel : Int} (ha : asks p f arg fuel = true) : WfM fuel 602 (whole p fuel f arg).1 ∧ WfF p.length (whole p fuel f arg).2 := by
 obtain ⟨h1, h2, h3, h4, h5, h6⟩ := start_wf (n := p.length) ha
 have hI : Inv p.length fuel 600 PL.start (newFrame f 1 arg) := ⟨start_m h5 h6 (by show (600 : Int) ≤ 600 - 2 * ((([] : List (Int × Int)).length : Nat) : Int); simp), newFrame_wf f 1 arg h2 h3 h4⟩
 obtain ⟨g1, g2, _, _⟩ := call_good h1 (fuel := fuel) 8 (Nat.le_refl _) 600 PL.start (newFrame f 1 arg) hI (by show (1 : Int) = 9 - ((8 : Nat) : Int); omega)
 exact ⟨g1, g2⟩
theorem runR_len (p : Pg) (f arg fuel : Int) : (runR p f arg fuel).1.trace.length ≤ 100000 := by
 unfold runR
 split
 ·rename_i ha
  have h := (whole_wf ha).1
  have h1 := h.pot
  have h2 := h.made1
  show (whole p fuel f arg).1.trace.length ≤ 100000
  omega
 ·exact Nat.zero_le _
end Go.Proofs.Ythejnpignlhgiaa.RunF
