import Derived.Test.YthejnpignlhgiaaIrec
import Derived.Test.YthejnpignlhgiaaM3
import Derived.Deep.RegionLaw
import Derived.IntWalk
import Derived.StillTailTactics
set_option linter.all false
namespace Go.Proofs.Ythejnpignlhgiaa.Istep1
open Lib (hid)
open Go.ChangeShapes Go.WideShapes Go.ChangeAt Go.RowKit
open PL Mem Srun Sst Imem Itell Irec
theorem i16_wrap (n : Int) : IntKind.i16.wrap n = wrap16 n := by
 unfold IntKind.wrap wrap16
 simp only [show IntKind.i16.bits = 16 from rfl, show IntKind.i16.signed = true from rfl, Bool.true_and, decide_eq_true_eq]
 split <;> omega
theorem wrapI_any (x : Int) (w : World) :
  Calls Try.prog 147 #[.int .i64 x] w fun e w' => e = .returned (.int .i64 (wrap16 x)) ∧ w = w' := by
 have hw : IntKind.i64.wrap (IntKind.i16.wrap x) = wrap16 x := by
  rw [i16_wrap]
  exact IntWalk.i64_in _ (by have := wrap16_N x; unfold N16 at this; omega)
 go_enter Try.func147, Try.ntmps147
 go_wp2_with fail
 go_ret
 exact ⟨rfl, rfl⟩
theorem step_box {w : Bs} {W W' : World} {lo mb cb : Nat} {vp : Value} {fuel : Int} {tv0 : Value} {rd : Option RD} {tv dv : Value} {op : Int} {m : M} {c : Fr} {k v : Int} {g : Nat} {cs : Array Value} (hB : Blk W g 139 cs) (h : Ist w lo mb cb vp fuel tv0 rd tv dv op m c k v W) (hch : Chg (fun y => y = mb ∨ tv.ownBlock = some y) W.drew W') : Blk W' g 139 cs :=
 Blk.chg (w := W.drew) hB hch (fun hc => by
  rcases hc with e | hc
  ·exact ne_blk hB h.l.mach (by decide) e
  ·exact blk_apart h.l.tre hB (by decide) hc)
section
variable {w : Bs} {W : World} {lo mb cb : Nat} {vp : Value} {fuel : Int} {tv0 : Value} {rd : Option RD} {tv dv : Value} {op : Int} {m : M} {c : Fr}
set_option maxRecDepth 100000 in
set_option maxHeartbeats 2000000 in
theorem step1 (h : Ist w lo mb cb vp fuel tv0 rd tv dv op (m) (c) 0 0 W) (a b nx : Int) (ha0 : 0 ≤ a) (ha4 : a < 4) :
  Calls Try.prog 146 #[.pointer (some ⟨mb, 0, none⟩), .pointer (some ⟨cb, 0, none⟩), .agg #[.int .i64 1, .int .i64 a, .int .i64 b], .int .i64 nx] W fun e W' => e = .returned (.int .i64 nx) ∧ Ist w lo mb cb vp fuel tv0 rd tv dv op (m) (setReg c a b) 0 0 W' := by
 have H := hid h
 clear h
 go_enter Try.func146, Try.ntmps146
 go_upto_region 1 with fail
 change (fun V => Code.wp _ _ _ _ V) _
 refine gen_world (X := fun V => Ist w lo mb cb vp fuel tv0 rd tv dv op (m) (c) 0 0 V ∧ Blk V W.heap.size 139 #[.int .i64 1, .int .i64 a, .int .i64 b]) ⟨H.out.alloc _, heap1_0 W _⟩ ?_
 clear H
 intro V hV
 have HV := hid hV.1
 have HB := hV.2
 have zs := hV.2.cells
 have f1 := hV.1.blk.frozen
 clear hV
 have za := (HV.out.blk.cells (1 + a.toNat)).trans (ccells_reg c _ _ _ _ a ha0 ha4)
 go_wp2_with fail
 go_region
 go_wp2_with fail
 go_ret
 exact ⟨rfl, (HV.out.putc (c' := setReg c a (b)) (1 + (a : Int).toNat) (.int .i64 (b)) (ccells_set _ _ _ _ _ a _ ha0 ha4) (setReg_defers _ _ _) (setReg_outer _ _ _) ((setReg_same _ _ _).2.2)).drew⟩
set_option maxRecDepth 100000 in
set_option maxHeartbeats 2000000 in
theorem step2 (h : Ist w lo mb cb vp fuel tv0 rd tv dv op (m) (c) 0 0 W) (a b nx : Int) (ha0 : 0 ≤ a) (ha4 : a < 4) (hb0 : 0 ≤ b) (hb4 : b < 4) (hx : N16 (reg c a)) (hy : N16 (reg c b)) :
  Calls Try.prog 146 #[.pointer (some ⟨mb, 0, none⟩), .pointer (some ⟨cb, 0, none⟩), .agg #[.int .i64 2, .int .i64 a, .int .i64 b], .int .i64 nx] W fun e W' => e = .returned (.int .i64 nx) ∧ Ist w lo mb cb vp fuel tv0 rd tv dv op (m) (setReg c a (wrap16 (reg c a + reg c b))) 0 0 W' := by
 have H := hid h
 clear h
 go_enter Try.func146, Try.ntmps146
 go_upto_region 1 with fail
 change (fun V => Code.wp _ _ _ _ V) _
 refine gen_world (X := fun V => Ist w lo mb cb vp fuel tv0 rd tv dv op (m) (c) 0 0 V ∧ Blk V W.heap.size 139 #[.int .i64 2, .int .i64 a, .int .i64 b]) ⟨H.out.alloc _, heap1_0 W _⟩ ?_
 clear H
 intro V hV
 have HV := hid hV.1
 have HB := hV.2
 have zs := hV.2.cells
 have f1 := hV.1.blk.frozen
 clear hV
 have za := (HV.out.blk.cells (1 + a.toNat)).trans (ccells_reg c _ _ _ _ a ha0 ha4)
 have zb := (HV.out.blk.cells (1 + b.toNat)).trans (ccells_reg c _ _ _ _ b hb0 hb4)
 have hw : IntKind.i64.wrap (reg c a + reg c b) = reg c a + reg c b := IntWalk.i64_in _ (by have := hx.1; have := hx.2; have := hy.1; have := hy.2; omega)
 have HW := hid (wrapI_any (reg c a + reg c b))
 have Q := hid HV.out.drew
 clear HV HB
 go_wp2_with fail
 refine wp_region_still_tail 19 (by kernel_rfl) (by kernel_rfl) ?_
 simp only [List.take_succ_cons, List.take_zero, List.drop_succ_cons, List.drop_zero]
 change wpStill _ _ V.drew _ _ _
 repeat still_step
 still_call ((HW.out V.drew).mono (fun e w' h => ⟨h.1, h.2.symm⟩))
 repeat still_step
 refine wpStill_nil ?_
 change wpList _ _ _ _ _ V.drew
 have za' := (Q.out.blk.cells (1 + a.toNat)).trans (ccells_reg c _ _ _ _ a ha0 ha4)
 have f1' := Q.out.blk.frozen
 clear za zb f1 zs
 generalize V.drew = V2 at *
 go_wp2_with fail
 go_ret
 exact ⟨rfl, Q.out.putc (c' := setReg c a (wrap16 (reg c a + reg c b))) (1 + (a : Int).toNat) (.int .i64 (wrap16 (reg c a + reg c b))) (ccells_set _ _ _ _ _ a _ ha0 ha4) (setReg_defers _ _ _) (setReg_outer _ _ _) ((setReg_same _ _ _).2.2)⟩
set_option maxRecDepth 100000 in
set_option maxHeartbeats 2000000 in
theorem step3 (h : Ist w lo mb cb vp fuel tv0 rd tv dv op (m) (c) 0 0 W) (a b nx : Int) (ha0 : 0 ≤ a) (ha4 : a < 4) (hl : m.trace.length ≤ 100000) :
  Calls Try.prog 146 #[.pointer (some ⟨mb, 0, none⟩), .pointer (some ⟨cb, 0, none⟩), .agg #[.int .i64 3, .int .i64 a, .int .i64 b], .int .i64 nx] W fun e W' => ∃ tv', e = .returned (.int .i64 nx) ∧ Ist w lo mb cb vp fuel tv0 rd tv' dv op (PL.tell m 4 c.f (reg c a)) (c) 0 0 W' := by
 have H := hid h
 clear h
 go_enter Try.func146, Try.ntmps146
 go_upto_region 1 with fail
 change (fun V => Code.wp _ _ _ _ V) _
 refine gen_world (X := fun V => Ist w lo mb cb vp fuel tv0 rd tv dv op (m) (c) 0 0 V ∧ Blk V W.heap.size 139 #[.int .i64 3, .int .i64 a, .int .i64 b]) ⟨H.out.alloc _, heap1_0 W _⟩ ?_
 clear H
 intro V hV
 have HV := hid hV.1
 have HB := hV.2
 have zs := hV.2.cells
 have f1 := hV.1.blk.frozen
 clear hV
 have za := (HV.out.blk.cells (1 + a.toNat)).trans (ccells_reg c _ _ _ _ a ha0 ha4)
 have y0 : V.cell? ⟨cb, 0, none⟩ = some (.int .i64 c.f) := HV.out.blk.cells 0
 go_wp2_with fail
 go_region_with (go_at_call 142; refine (tellI_any HV.out.drew 4 c.f (reg c a) hl).mono ?_; rintro e W' ⟨tv', rfl, h', _⟩)
 all_goals
  go_wp2_with fail
  go_ret
  exact ⟨tv', rfl, h'⟩
set_option maxRecDepth 100000 in
set_option maxHeartbeats 2000000 in
theorem step6 (h : Ist w lo mb cb vp fuel tv0 rd tv dv op (m) (c) 0 0 W) (a b nx : Int) (ha0 : 0 ≤ a) (ha4 : a < 4) (hl : m.trace.length ≤ 100000) :
  Calls Try.prog 146 #[.pointer (some ⟨mb, 0, none⟩), .pointer (some ⟨cb, 0, none⟩), .agg #[.int .i64 6, .int .i64 a, .int .i64 b], .int .i64 nx] W fun e W' => ∃ tv', e = .panicked [{ v := endV 2 (reg c a), recovered := false }] ∧ Ist w lo mb cb vp fuel tv0 rd tv' dv op (PL.tell m 5 c.f (reg c a)) (c) 0 0 W' := by
 have H := hid h
 clear h
 go_enter Try.func146, Try.ntmps146
 go_upto_region 1 with fail
 change (fun V => Code.wp _ _ _ _ V) _
 refine gen_world (X := fun V => Ist w lo mb cb vp fuel tv0 rd tv dv op (m) (c) 0 0 V ∧ Blk V W.heap.size 139 #[.int .i64 6, .int .i64 a, .int .i64 b]) ⟨H.out.alloc _, heap1_0 W _⟩ ?_
 clear H
 intro V hV
 have HV := hid hV.1
 have HB := hV.2
 have zs := hV.2.cells
 have f1 := hV.1.blk.frozen
 clear hV
 have za := (HV.out.blk.cells (1 + a.toNat)).trans (ccells_reg c _ _ _ _ a ha0 ha4)
 have y0 : V.cell? ⟨cb, 0, none⟩ = some (.int .i64 c.f) := HV.out.blk.cells 0
 have hB := hid HB
 clear HB
 go_wp2_with fail
 go_region_with (go_at_call 142; refine (tellI_any HV.out.drew 5 c.f (reg c a) hl).mono ?_; rintro e W' ⟨tv', rfl, h', hch⟩)
 all_goals
  have zs2 := (step_box hB.out HV.out hch).cells
  have za2 := (h'.blk.cells (1 + a.toNat)).trans (ccells_reg c _ _ _ _ a ha0 ha4)
  have H' := hid h'
  clear h' hch za y0 zs
  go_wp2_with fail
  have S0 : (fun V : World => (∀ o, V.cell? ⟨W.heap.size, o, none⟩ = (#[.int .i64 6, .int .i64 a, .int .i64 b] : Array Value)[o]?) ∧ V.cell? ⟨cb, 1 + a.toNat, none⟩ = some (.int .i64 (reg c a))) W'.drew := ⟨zs2, za2⟩
  refine Last2.region_last [8] (fun V : World => (∀ o, V.cell? ⟨W.heap.size, o, none⟩ = (#[.int .i64 6, .int .i64 a, .int .i64 b] : Array Value)[o]?) ∧ V.cell? ⟨cb, 1 + a.toNat, none⟩ = some (.int .i64 (reg c a))) (by kernel_rfl) ?_
  refine Last2.tk 0 116 (.pointer (some ⟨cb, 1, none⟩)) S0 ?_
  simp only [Act.put, Last2.s]
  refine Last2.tk 1 117 (.pointer (some ⟨W.heap.size, 1, none⟩)) S0 ?_
  simp only [Act.put, Last2.s]
  refine Last2.tk 2 118 (.int .i64 a) S0 ?_
  simp only [Act.put, Last2.s]
  refine Last2.tk 3 119 (.pointer (some ⟨cb, 1, none⟩)) S0 ?_
  simp only [Act.put, Last2.s]
  refine Last2.tk 4 120 (.pointer (some ⟨cb, 1 + a.toNat, none⟩)) S0 ?_
  simp only [Act.put, Last2.s]
  refine Last2.tk 5 121 (.int .i64 (reg c a)) S0 ?_
  simp only [Act.put, Last2.s]
  refine Last2.tk 6 122 (.agg #[.int .i64 2, .int .i64 (reg c a)]) S0 ?_
  simp only [Act.put, Last2.s]
  refine Last2.tk 7 123 (.iface 162 (.agg #[.int .i64 2, .int .i64 (reg c a)])) S0 ?_
  simp only [Act.put, Last2.s]
  refine Last2.last_one (i := 8) (o := { dst := none, op := .panic (.tmp 123), type := 0, pos := _, after := _, guard := none }) (by kernel_rfl) rfl rfl (fun K hK => ?_)
  go_simp
  exact ⟨rfl, tv', rfl, H'.out.drew⟩
end
end Go.Proofs.Ythejnpignlhgiaa.Istep1
-- squeezed
