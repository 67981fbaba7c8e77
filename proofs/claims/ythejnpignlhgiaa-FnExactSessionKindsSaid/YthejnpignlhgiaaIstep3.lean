import Derived.Test.YthejnpignlhgiaaM16
import Derived.Test.YthejnpignlhgiaaM3
import Derived.Deep.RegionLaw
set_option linter.all false
namespace Go.Proofs.Ythejnpignlhgiaa.Istep3
open Last2 (tk)
open Lib (hid)
open Go.ChangeShapes Go.WideShapes Go.ChangeAt Go.RowKit
open PL Mem Srun Sst Imem Itell Irec Icall Istep1 Istep2 Leav
theorem infoDf : (Try.prog.info? 196).map (fun i => (i.zero, i.size, i.bytes)) = some (some (.agg #[.int .i64 0, .int .i64 0]), 2, 16) := by kernel_rfl
section
variable {w : Bs} {W : World} {lo mb cb : Nat} {vp : Value} {fuel : Int} {tv0 : Value} {rd : Option RD} {tv dv : Value} {op : Int} {m : M} {c : Fr}
set_option maxRecDepth 100000 in
set_option maxHeartbeats 2000000 in
theorem step5 (h : Ist w lo mb cb vp fuel tv0 rd tv dv op (m) (c) 0 0 W) (a b nx : Int) (hb0 : 0 ≤ b) (hb4 : b < 4) (hl : m.trace.length ≤ 100000) (hdl : c.defers.length ≤ 100000) :
  Calls Try.prog 146 #[.pointer (some ⟨mb, 0, none⟩), .pointer (some ⟨cb, 0, none⟩), .agg #[.int .i64 5, .int .i64 a, .int .i64 b], .int .i64 nx] W fun e W' => ∃ tv' dv', e = .returned (.int .i64 nx) ∧ Ist w lo mb cb vp fuel tv0 rd tv' dv' op (PL.tell m 2 a (reg c b)) ({ c with defers := c.defers ++ [(a, reg c b)] }) 0 0 W' := by
 have H := hid h
 clear h
 go_enter Try.func146, Try.ntmps146
 go_upto_region 1 with fail
 change (fun V => Code.wp _ _ _ _ V) _
 refine gen_world (X := fun V => Ist w lo mb cb vp fuel tv0 rd tv dv op (m) (c) 0 0 V ∧ Blk V W.heap.size 139 #[.int .i64 5, .int .i64 a, .int .i64 b]) ⟨H.out.alloc _, heap1_0 W _⟩ ?_
 clear H
 intro V hV
 have HV := hid hV.1
 have HB := hV.2
 have zs := hV.2.cells
 have f1 := hV.1.blk.frozen
 clear hV
 have zb := (HV.out.blk.cells (1 + b.toNat)).trans (ccells_reg c _ _ _ _ b hb0 hb4)
 have hB := hid HB
 clear HB
 go_wp2_with fail
 go_region_with (go_at_call 142; refine (tellI_any HV.out.drew 2 a (reg c b) hl).mono ?_; rintro e W' ⟨tv', rfl, h', hch⟩)
 all_goals
  have B2 := hid (step_box hB.out HV.out hch)
  have zs2 := B2.out.cells
  have zb2 := (h'.blk.cells (1 + b.toNat)).trans (ccells_reg c _ _ _ _ b hb0 hb4)
  have H' := hid h'
  clear h' hch zb zs
  obtain ⟨Ad, cd, rfl⟩ := own_slice H'.out.dfs
  obtain ⟨i0, hi, hz0, hz1, hz2⟩ := info_parts infoDf
  have zd : W'.cell? ⟨cb, 6, none⟩ = some (.slice Ad c.defers.length cd) := H'.out.blk.cells 6
  have hlo := H'.out.loW
  go_wp2_with fail
  have S0 : (fun V : World => (∀ o, V.cell? ⟨W.heap.size, o, none⟩ = (#[.int .i64 5, .int .i64 a, .int .i64 b] : Array Value)[o]?) ∧ V.cell? ⟨cb, 1 + b.toNat, none⟩ = some (.int .i64 (reg c b)) ∧ V.cell? ⟨cb, 6, none⟩ = some (.slice Ad c.defers.length cd)) W'.drew := ⟨zs2, zb2, zd⟩
  refine Last2.region_last [18] (fun V : World => (∀ o, V.cell? ⟨W.heap.size, o, none⟩ = (#[.int .i64 5, .int .i64 a, .int .i64 b] : Array Value)[o]?) ∧ V.cell? ⟨cb, 1 + b.toNat, none⟩ = some (.int .i64 (reg c b)) ∧ V.cell? ⟨cb, 6, none⟩ = some (.slice Ad c.defers.length cd)) (by kernel_rfl) ?_
  refine tk 0 84 (.pointer (some ⟨cb, 0, none⟩)) S0 ?_
  simp only [Act.put, Last2.s]
  refine tk 1 85 (.pointer (some ⟨cb, 0, none⟩)) S0 ?_
  simp only [Act.put, Last2.s]
  refine tk 2 86 (.pointer (some ⟨cb, 0, none⟩)) S0 ?_
  simp only [Act.put, Last2.s]
  refine tk 3 87 (.pointer (some ⟨cb, 6, none⟩)) S0 ?_
  simp only [Act.put, Last2.s]
  refine tk 4 88 (.slice Ad c.defers.length cd) S0 ?_
  simp only [Act.put, Last2.s]
  refine tk 5 89 (.pointer (some ⟨W.heap.size, 1, none⟩)) S0 ?_
  simp only [Act.put, Last2.s]
  refine tk 6 90 (.int .i64 a) S0 ?_
  simp only [Act.put, Last2.s]
  refine tk 7 91 (.pointer (some ⟨cb, 1, none⟩)) S0 ?_
  simp only [Act.put, Last2.s]
  refine tk 8 92 (.pointer (some ⟨W.heap.size, 2, none⟩)) S0 ?_
  simp only [Act.put, Last2.s]
  refine tk 9 93 (.int .i64 b) S0 ?_
  simp only [Act.put, Last2.s]
  refine tk 10 94 (.pointer (some ⟨cb, 1, none⟩)) S0 ?_
  simp only [Act.put, Last2.s]
  refine tk 11 95 (.pointer (some ⟨cb, 1 + b.toNat, none⟩)) S0 ?_
  simp only [Act.put, Last2.s]
  refine tk 12 96 (.int .i64 (reg c b)) S0 ?_
  simp only [Act.put, Last2.s]
  refine tk 13 97 (.agg #[.int .i64 a, .int .i64 (reg c b)]) S0 ?_
  simp only [Act.put, Last2.s]
  refine Last2.last_one (i := 14) (o := { dst := some 98, op := .buildSlice 184 1 #[(0, .tmp 97)], type := _, pos := _, after := _, guard := none }) (by kernel_rfl) rfl rfl (fun K hK => ?_)
  go_simp
  have HA := hid (H'.out.alloc (.cells #[.int .i64 a, .int .i64 (reg c b)] 196))
  have S1 : (fun V : World => (∀ o, V.cell? ⟨W.heap.size, o, none⟩ = (#[.int .i64 5, .int .i64 a, .int .i64 b] : Array Value)[o]?) ∧ V.cell? ⟨cb, 1 + b.toNat, none⟩ = some (.int .i64 (reg c b)) ∧ V.cell? ⟨cb, 6, none⟩ = some (.slice Ad c.defers.length cd)) (W'.alloc (.cells #[.int .i64 a, .int .i64 (reg c b)] 196)).drew := ⟨(B2.out.alloc _).cells, (HA.out.blk.cells (1 + b.toNat)).trans (ccells_reg c _ _ _ _ b hb0 hb4), HA.out.blk.cells 6⟩
  refine hK.out _ _ (fun _ => S1) ?_
  clear hK K S0 zs2 zb2 zd HA
  try simp only [Act.put, Last2.s]
  have o0 := World.ownsRow.alloc H'.out.dfs (.cells #[.int .i64 a, .int .i64 (reg c b)] 196)
  have p0 := App.pair_own (heap1_0 W' (.cells #[.int .i64 a, .int .i64 (reg c b)] 196))
  refine Last2.last_one (i := 15) (o := { dst := some 99, op := .call { callee := .builtin .append, args := #[.tmp 88, .tmp 98], argTypes := #[184, 184] }, type := _, pos := _, after := _, guard := none }) (by kernel_rfl) rfl rfl (fun K hK => ?_)
  refine App.row_wp _ (.tmp 88) (.tmp 98) 184 rfl lo 0 196 i0 _ 2 16 Try.underlying184 hi hz0 hz1 hz2 rfl (by decide) _ _ _ rfl o0 _ 1 [.int .i64 a, .int .i64 (reg c b)] rfl p0 (by intro u hu; simp at hu; rcases hu with rfl | rfl <;> rfl) (by unfold maxLen; omega) (by omega) (by show lo ≤ (W'.alloc _).heap.size; rw [World.size_alloc]; omega) ?_
  intro v1 w1 o1 g1 t1
  have ch : Chg (fun x => (Value.slice Ad c.defers.length cd).ownBlock = some x) W' w1 := Chg.trans (b := (W'.alloc (.cells #[.int .i64 a, .int .i64 (reg c b)] 196)).drew) (Chg.trans (Chg.alloc _ W' _) (Chg.drew (fun _ => False) _) (fun _ _ h => h.elim)) (Chg.of_grown g1) (fun x _ hx => hx.symm)
  have b1 := H'.out.blk.chg ch H'.out.ndc
  have S2 : (fun V : World => (∀ o, V.cell? ⟨W.heap.size, o, none⟩ = (#[.int .i64 5, .int .i64 a, .int .i64 b] : Array Value)[o]?) ∧ V.cell? ⟨cb, 1 + b.toNat, none⟩ = some (.int .i64 (reg c b)) ∧ V.cell? ⟨cb, 6, none⟩ = some (.slice Ad c.defers.length cd)) w1 := ⟨(B2.out.chg ch (blk_apart H'.out.dfs B2.out (by decide))).cells, (b1.cells (1 + b.toNat)).trans (ccells_reg c _ _ _ _ b hb0 hb4), b1.cells 6⟩
  refine hK.out _ _ (fun _ => S2) ?_
  clear hK K o0 p0 S1
  obtain ⟨A1, c1, rfl⟩ := own_slice o1
  have k6 : w1.cell? ⟨cb, 6, none⟩ = some (.slice Ad c.defers.length cd) := b1.cells 6
  have f6 : w1.frozen? ⟨cb, 6, none⟩ = false := b1.frozen 6
  have O1 := hid o1
  have T1 := hid t1
  have CH := hid ch
  have SH := hid S2
  clear o1 g1 t1 ch b1 S2
  try simp only [Act.put, Last2.s]
  refine Last2.last_one (i := 16) (o := { dst := some 100, op := .nilCheck (.tmp 84), type := _, pos := _, after := _, guard := none }) (by kernel_rfl) rfl rfl (fun K hK => ?_)
  go_simp
  refine hK.out _ _ (fun _ => SH.out) ?_
  clear hK K
  refine Last2.last_one (i := 17) (o := { dst := some 101, op := .fieldAddr 186 (.tmp 100) 3, type := _, pos := _, after := _, guard := none }) (by kernel_rfl) rfl rfl (fun K hK => ?_)
  go_simp
  refine hK.out _ _ (fun _ => SH.out) ?_
  clear hK K
  refine Last2.last_one (i := 18) (o := { dst := none, op := .store 184 (.tmp 101) (.tmp 99), type := _, pos := _, after := _, guard := none }) (by kernel_rfl) rfl rfl (fun K hK => ?_)
  go_simp
  refine hK.out _ _ (fun h => (h (by decide)).elim) ?_
  clear hK K
  refine Last2.last_done (by kernel_rfl) ?_ _
  go_wp2_with fail
  go_ret
  refine ⟨rfl, tv', _, H'.out.dfr (dv' := .slice A1 (c.defers.length + 1) c1) (l := c.defers ++ [(a, reg c b)]) ?_ CH.out (fun x hx => ?_)⟩
  ·have o := O1.out
   unfold Dfs
   rw [List.length_append, cells2_append]
   simpa [cells2, Srun.c2] using o
  ·rcases T1.out with e | e
   ·exact .inl (e ▸ hx)
   ·rw [e] at hx
    obtain rfl : W'.heap.size + 1 = x := by simpa using hx
    exact .inr (by omega)
end
end Go.Proofs.Ythejnpignlhgiaa.Istep3
-- squeezed
