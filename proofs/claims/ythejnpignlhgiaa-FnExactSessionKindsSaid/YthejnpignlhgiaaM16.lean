import Derived.Test.YthejnpignlhgiaaIrec
import Derived.Test.YthejnpignlhgiaaM3
import Derived.Deep.RegionLaw
import Derived.Test.YthejnpignlhgiaaIstep1
set_option linter.all false
namespace Go.Proofs.Ythejnpignlhgiaa.Istep2
open Lib (hid)
open Go.ChangeShapes Go.WideShapes Go.ChangeAt Go.RowKit
open PL Mem Srun Sst Imem Itell Irec
theorem ist_drewN {w : Bs} {W : World} {lo mb cb : Nat} {vp : Value} {fuel : Int} {tv0 : Value} {rd : Option RD} {tv dv : Value} {op : Int} {m : M} {c : Fr} {k v : Int} (h : Ist w lo mb cb vp fuel tv0 rd tv dv op m c k v W) (n : Nat) : Ist w lo mb cb vp fuel tv0 rd tv dv op m c k v (W.drewN n) :=
 ⟨⟨h.l.tre, h.l.mach, ⟨h.l.chg.os, h.l.chg.tape, h.l.chg.output, h.l.chg.size, h.l.chg.block⟩, h.l.ft⟩, h.b, h.dfs, h.fd, h.blk, h.h0, h.nr, h.runB, h.runF⟩
section
variable {w : Bs} {W : World} {lo mb cb : Nat} {vp : Value} {fuel : Int} {tv0 : Value} {rd : Option RD} {tv dv : Value} {op : Int} {m : M} {c : Fr}
set_option maxRecDepth 100000 in
set_option maxHeartbeats 2000000 in
theorem step7n (h : Ist w lo mb cb vp fuel tv0 rd tv dv op (m) (c) 0 0 W) (a b nx : Int) (ha0 : 0 ≤ a) (ha4 : a < 4) (hn : (c.panicking && !c.recovered) = false) :
  Calls Try.prog 146 #[.pointer (some ⟨mb, 0, none⟩), .pointer (some ⟨cb, 0, none⟩), .agg #[.int .i64 7, .int .i64 a, .int .i64 b], .int .i64 nx] W fun e W' => e = .returned (.int .i64 nx) ∧ Ist w lo mb cb vp fuel tv0 rd tv dv op (m) (setReg (setReg c a 0) 3 0) 0 0 W' := by
 have H := hid h
 clear h
 go_enter Try.func146, Try.ntmps146
 go_upto_region 1 with fail
 change (fun V => Code.wp _ _ _ _ V) _
 refine gen_world (X := fun V => Ist w lo mb cb vp fuel tv0 rd tv dv op (m) (c) 0 0 V ∧ Blk V W.heap.size 139 #[.int .i64 7, .int .i64 a, .int .i64 b]) ⟨H.out.alloc _, heap1_0 W _⟩ ?_
 clear H
 intro V hV
 have HV := hid hV.1
 have HB := hV.2
 have zs := hV.2.cells
 have f1 := hV.1.blk.frozen
 clear hV
 go_wp2_with fail
 refine (recover_not HV.out a ha0 ha4 hn).mono ?_
 rintro e W' ⟨rfl, h'⟩
 go_wp2_with fail
 go_ret
 exact ⟨rfl, h'⟩
set_option maxRecDepth 100000 in
set_option maxHeartbeats 2000000 in
theorem step7y (h : Ist w lo mb cb vp fuel tv0 rd tv dv op (m) (c) 0 0 W) (a b nx : Int) (ha0 : 0 ≤ a) (ha4 : a < 4) (hl : m.trace.length ≤ 100000) (hp : c.panicking = true) (hc : c.recovered = false) :
  Calls Try.prog 146 #[.pointer (some ⟨mb, 0, none⟩), .pointer (some ⟨cb, 0, none⟩), .agg #[.int .i64 7, .int .i64 a, .int .i64 b], .int .i64 nx] W fun e W' => ∃ tv', e = .returned (.int .i64 nx) ∧ Ist w lo mb cb vp fuel tv0 rd tv' dv op (PL.tell m 6 c.f c.panic) (setReg (setReg { c with recovered := true } a c.panic) 3 1) 0 0 W' := by
 have H := hid h
 clear h
 go_enter Try.func146, Try.ntmps146
 go_upto_region 1 with fail
 change (fun V => Code.wp _ _ _ _ V) _
 refine gen_world (X := fun V => Ist w lo mb cb vp fuel tv0 rd tv dv op (m) (c) 0 0 V ∧ Blk V W.heap.size 139 #[.int .i64 7, .int .i64 a, .int .i64 b]) ⟨H.out.alloc _, heap1_0 W _⟩ ?_
 clear H
 intro V hV
 have HV := hid hV.1
 have HB := hV.2
 have zs := hV.2.cells
 have f1 := hV.1.blk.frozen
 clear hV
 have hr := hid (recover_yes HV.out a ha0 ha4 hp hc hl)
 clear hp hc
 go_wp2_with fail
 refine hr.out.mono ?_
 rintro e W' ⟨tv', rfl, h'⟩
 go_wp2_with fail
 go_ret
 exact ⟨tv', rfl, h'⟩
set_option maxRecDepth 100000 in
set_option maxHeartbeats 2000000 in
theorem step8 (h : Ist w lo mb cb vp fuel tv0 rd tv dv op (m) (c) 0 0 W) (a b nx : Int) (ha0 : 0 ≤ a) (ha4 : a < 4) :
  Calls Try.prog 146 #[.pointer (some ⟨mb, 0, none⟩), .pointer (some ⟨cb, 0, none⟩), .agg #[.int .i64 8, .int .i64 a, .int .i64 b], .int .i64 nx] W fun e W' => e = .returned (.int .i64 8) ∧ Ist w lo mb cb vp fuel tv0 rd tv dv op (m) ({ c with r1 := reg c a }) 0 0 W' := by
 have H := hid h
 clear h
 go_enter Try.func146, Try.ntmps146
 go_upto_region 1 with fail
 change (fun V => Code.wp _ _ _ _ V) _
 refine gen_world (X := fun V => Ist w lo mb cb vp fuel tv0 rd tv dv op (m) (c) 0 0 V ∧ Blk V W.heap.size 139 #[.int .i64 8, .int .i64 a, .int .i64 b]) ⟨H.out.alloc _, heap1_0 W _⟩ ?_
 clear H
 intro V hV
 have HV := hid hV.1
 have HB := hV.2
 have zs := hV.2.cells
 have f1 := hV.1.blk.frozen
 clear hV
 have za := (HV.out.blk.cells (1 + a.toNat)).trans (ccells_reg c _ _ _ _ a ha0 ha4)
 have z2 : V.cell? ⟨cb, 2, none⟩ = some (.int .i64 c.r1) := HV.out.blk.cells 2
 go_wp2_with fail
 go_region
 go_wp2_with fail
 go_ret
 exact ⟨rfl, (HV.out.putc (c' := { c with r1 := reg c a }) 2 (.int .i64 (reg c a)) rfl rfl rfl ⟨rfl, rfl, rfl⟩).drew⟩
set_option maxRecDepth 100000 in
set_option maxHeartbeats 2000000 in
theorem step9n (h : Ist w lo mb cb vp fuel tv0 rd tv dv op (m) (c) 0 0 W) (a b nx : Int) (ha0 : 0 ≤ a) (ha4 : a < 4) (hd : c.deferred = false) :
  Calls Try.prog 146 #[.pointer (some ⟨mb, 0, none⟩), .pointer (some ⟨cb, 0, none⟩), .agg #[.int .i64 9, .int .i64 a, .int .i64 b], .int .i64 nx] W fun e W' => e = .returned (.int .i64 nx) ∧ Ist w lo mb cb vp fuel tv0 rd tv dv op (m) (c) 0 0 W' := by
 have H := hid h
 clear h
 go_enter Try.func146, Try.ntmps146
 go_upto_region 1 with fail
 change (fun V => Code.wp _ _ _ _ V) _
 refine gen_world (X := fun V => Ist w lo mb cb vp fuel tv0 rd tv dv op (m) (c) 0 0 V ∧ Blk V W.heap.size 139 #[.int .i64 9, .int .i64 a, .int .i64 b]) ⟨H.out.alloc _, heap1_0 W _⟩ ?_
 clear H
 intro V hV
 have HV := hid hV.1
 have HB := hV.2
 have zs := hV.2.cells
 have f1 := hV.1.blk.frozen
 clear hV
 have hn : rd = none := by
  cases rd with
  | none => rfl
  | some d => exact absurd HV.out.runF.1 (by rw [hd]; decide)
 subst hn
 have y5 : V.cell? ⟨cb, 5, none⟩ = some (.pointer none) := HV.out.blk.cells 5
 clear hd
 go_wp2_with fail
 go_ret
 exact ⟨rfl, HV.out⟩
set_option maxRecDepth 100000 in
set_option maxHeartbeats 2000000 in
theorem step9y (h : Ist w lo mb cb vp fuel tv0 rd tv dv op (m) (c) 0 0 W) (a b nx : Int) (ha0 : 0 ≤ a) (ha4 : a < 4) (hd : c.deferred = true) :
  Calls Try.prog 146 #[.pointer (some ⟨mb, 0, none⟩), .pointer (some ⟨cb, 0, none⟩), .agg #[.int .i64 9, .int .i64 a, .int .i64 b], .int .i64 nx] W fun e W' => e = .returned (.int .i64 nx) ∧ Ist w lo mb cb vp fuel tv0 rd tv dv op (m) ({ c with outer := reg c a }) 0 0 W' := by
 have H := hid h
 clear h
 go_enter Try.func146, Try.ntmps146
 go_upto_region 1 with fail
 change (fun V => Code.wp _ _ _ _ V) _
 refine gen_world (X := fun V => Ist w lo mb cb vp fuel tv0 rd tv dv op (m) (c) 0 0 V ∧ Blk V W.heap.size 139 #[.int .i64 9, .int .i64 a, .int .i64 b]) ⟨H.out.alloc _, heap1_0 W _⟩ ?_
 clear H
 intro V hV
 have HV := hid hV.1
 have HB := hV.2
 have zs := hV.2.cells
 have f1 := hV.1.blk.frozen
 clear hV
 have za := (HV.out.blk.cells (1 + a.toNat)).trans (ccells_reg c _ _ _ _ a ha0 ha4)
 obtain ⟨d, rfl⟩ : ∃ d, rd = some d := by
  cases rd with
  | none => exact absurd HV.out.runF.1 (by rw [hd]; decide)
  | some d => exact ⟨d, rfl⟩
 have y5 : V.cell? ⟨cb, 5, none⟩ = some (.pointer (some ⟨d.b, 0, none⟩)) := HV.out.blk.cells 5
 have w2 : V.cell? ⟨d.b, 2, none⟩ = some (.int .i64 c.outer) := (HV.out.runB d rfl).cells 2
 have f2 := (HV.out.runB d rfl).frozen
 clear hd
 go_wp2_with fail
 go_region
 go_wp2_with fail
 go_ret
 exact ⟨rfl, (HV.out.puto (reg c a)).drew⟩
set_option maxRecDepth 100000 in
set_option maxHeartbeats 2000000 in
theorem step10 (h : Ist w lo mb cb vp fuel tv0 rd tv dv op (m) (c) 0 0 W) (a b nx : Int) :
  Calls Try.prog 146 #[.pointer (some ⟨mb, 0, none⟩), .pointer (some ⟨cb, 0, none⟩), .agg #[.int .i64 10, .int .i64 a, .int .i64 b], .int .i64 nx] W fun e W' => e = .panicked [{ v := endV 3 0, recovered := false }] ∧ Ist w lo mb cb vp fuel tv0 rd tv dv op (m) ({ c with leaving := true }) 0 0 W' := by
 have H := hid h
 clear h
 go_enter Try.func146, Try.ntmps146
 go_upto_region 1 with fail
 change (fun V => Code.wp _ _ _ _ V) _
 refine gen_world (X := fun V => Ist w lo mb cb vp fuel tv0 rd tv dv op (m) (c) 0 0 V ∧ Blk V W.heap.size 139 #[.int .i64 10, .int .i64 a, .int .i64 b]) ⟨H.out.alloc _, heap1_0 W _⟩ ?_
 clear H
 intro V hV
 have HV := hid hV.1
 have HB := hV.2
 have zs := hV.2.cells
 have f1 := hV.1.blk.frozen
 clear hV
 have y9 : V.cell? ⟨cb, 9, none⟩ = some (.bool c.leaving) := HV.out.blk.cells 9
 go_wp2_with fail
 exact ⟨rfl, rfl, HV.out.putc (c' := { c with leaving := true }) 9 (.bool true) rfl rfl rfl ⟨rfl, rfl, rfl⟩⟩
set_option maxRecDepth 100000 in
set_option maxHeartbeats 2000000 in
theorem step11y (h : Ist w lo mb cb vp fuel tv0 rd tv dv op (m) (c) 0 0 W) (a b nx : Int) (hb0 : 0 ≤ b) (hb4 : b < 4) (hp : reg c b > 0) :
  Calls Try.prog 146 #[.pointer (some ⟨mb, 0, none⟩), .pointer (some ⟨cb, 0, none⟩), .agg #[.int .i64 11, .int .i64 a, .int .i64 b], .int .i64 nx] W fun e W' => e = .returned (.int .i64 a) ∧ Ist w lo mb cb vp fuel tv0 rd tv dv op (m) (c) 0 0 W' := by
 have H := hid h
 clear h
 go_enter Try.func146, Try.ntmps146
 go_upto_region 1 with fail
 change (fun V => Code.wp _ _ _ _ V) _
 refine gen_world (X := fun V => Ist w lo mb cb vp fuel tv0 rd tv dv op (m) (c) 0 0 V ∧ Blk V W.heap.size 139 #[.int .i64 11, .int .i64 a, .int .i64 b]) ⟨H.out.alloc _, heap1_0 W _⟩ ?_
 clear H
 intro V hV
 have HV := hid hV.1
 have HB := hV.2
 have zs := hV.2.cells
 have f1 := hV.1.blk.frozen
 clear hV
 have zb := (HV.out.blk.cells (1 + b.toNat)).trans (ccells_reg c _ _ _ _ b hb0 hb4)
 have hd : decide (0 < reg c b) = true := by simpa using hp
 go_wp2_with fail
 go_quiet (fail)
 go_wp2_with fail
 go_ret
 exact ⟨rfl, ist_drewN HV.out _⟩
set_option maxRecDepth 100000 in
set_option maxHeartbeats 2000000 in
theorem step11n (h : Ist w lo mb cb vp fuel tv0 rd tv dv op (m) (c) 0 0 W) (a b nx : Int) (hb0 : 0 ≤ b) (hb4 : b < 4) (hp : ¬ reg c b > 0) :
  Calls Try.prog 146 #[.pointer (some ⟨mb, 0, none⟩), .pointer (some ⟨cb, 0, none⟩), .agg #[.int .i64 11, .int .i64 a, .int .i64 b], .int .i64 nx] W fun e W' => e = .returned (.int .i64 nx) ∧ Ist w lo mb cb vp fuel tv0 rd tv dv op (m) (c) 0 0 W' := by
 have H := hid h
 clear h
 go_enter Try.func146, Try.ntmps146
 go_upto_region 1 with fail
 change (fun V => Code.wp _ _ _ _ V) _
 refine gen_world (X := fun V => Ist w lo mb cb vp fuel tv0 rd tv dv op (m) (c) 0 0 V ∧ Blk V W.heap.size 139 #[.int .i64 11, .int .i64 a, .int .i64 b]) ⟨H.out.alloc _, heap1_0 W _⟩ ?_
 clear H
 intro V hV
 have HV := hid hV.1
 have HB := hV.2
 have zs := hV.2.cells
 have f1 := hV.1.blk.frozen
 clear hV
 have zb := (HV.out.blk.cells (1 + b.toNat)).trans (ccells_reg c _ _ _ _ b hb0 hb4)
 have hd : decide (0 < reg c b) = false := by simpa using hp
 go_wp2_with fail
 go_quiet (fail)
 go_wp2_with fail
 go_ret
 exact ⟨rfl, ist_drewN HV.out _⟩
set_option maxRecDepth 100000 in
set_option maxHeartbeats 2000000 in
theorem step12 (h : Ist w lo mb cb vp fuel tv0 rd tv dv op (m) (c) 0 0 W) (a b nx : Int) (ha0 : 0 ≤ a) (ha4 : a < 4) :
  Calls Try.prog 146 #[.pointer (some ⟨mb, 0, none⟩), .pointer (some ⟨cb, 0, none⟩), .agg #[.int .i64 12, .int .i64 a, .int .i64 b], .int .i64 nx] W fun e W' => e = .returned (.int .i64 nx) ∧ Ist w lo mb cb vp fuel tv0 rd tv dv op ({ m with shared := reg c a }) (c) 0 0 W' := by
 have H := hid h
 clear h
 go_enter Try.func146, Try.ntmps146
 go_upto_region 1 with fail
 change (fun V => Code.wp _ _ _ _ V) _
 refine gen_world (X := fun V => Ist w lo mb cb vp fuel tv0 rd tv dv op (m) (c) 0 0 V ∧ Blk V W.heap.size 139 #[.int .i64 12, .int .i64 a, .int .i64 b]) ⟨H.out.alloc _, heap1_0 W _⟩ ?_
 clear H
 intro V hV
 have HV := hid hV.1
 have HB := hV.2
 have zs := hV.2.cells
 have f1 := hV.1.blk.frozen
 clear hV
 have za := (HV.out.blk.cells (1 + a.toNat)).trans (ccells_reg c _ _ _ _ a ha0 ha4)
 have y4 : V.cell? ⟨mb, 4, none⟩ = some (.int .i64 m.shared) := HV.out.l.mach.cells 4
 have f0 := HV.out.l.mach.frozen
 go_wp2_with fail
 go_region
 go_wp2_with fail
 go_ret
 exact ⟨rfl, (HV.out.putm (m' := { m with shared := reg c a }) (op' := op) 4 (.int .i64 (reg c a)) rfl rfl).drew⟩
set_option maxRecDepth 100000 in
set_option maxHeartbeats 2000000 in
theorem step13 (h : Ist w lo mb cb vp fuel tv0 rd tv dv op (m) (c) 0 0 W) (a b nx : Int) (ha0 : 0 ≤ a) (ha4 : a < 4) :
  Calls Try.prog 146 #[.pointer (some ⟨mb, 0, none⟩), .pointer (some ⟨cb, 0, none⟩), .agg #[.int .i64 13, .int .i64 a, .int .i64 b], .int .i64 nx] W fun e W' => e = .returned (.int .i64 nx) ∧ Ist w lo mb cb vp fuel tv0 rd tv dv op (m) (setReg c a m.shared) 0 0 W' := by
 have H := hid h
 clear h
 go_enter Try.func146, Try.ntmps146
 go_upto_region 1 with fail
 change (fun V => Code.wp _ _ _ _ V) _
 refine gen_world (X := fun V => Ist w lo mb cb vp fuel tv0 rd tv dv op (m) (c) 0 0 V ∧ Blk V W.heap.size 139 #[.int .i64 13, .int .i64 a, .int .i64 b]) ⟨H.out.alloc _, heap1_0 W _⟩ ?_
 clear H
 intro V hV
 have HV := hid hV.1
 have HB := hV.2
 have zs := hV.2.cells
 have f1 := hV.1.blk.frozen
 clear hV
 have za := (HV.out.blk.cells (1 + a.toNat)).trans (ccells_reg c _ _ _ _ a ha0 ha4)
 have y4 : V.cell? ⟨mb, 4, none⟩ = some (.int .i64 m.shared) := HV.out.l.mach.cells 4
 go_wp2_with fail
 go_region
 go_wp2_with fail
 go_ret
 exact ⟨rfl, (HV.out.putc (c' := setReg c a (m.shared)) (1 + (a : Int).toNat) (.int .i64 (m.shared)) (ccells_set _ _ _ _ _ a _ ha0 ha4) (setReg_defers _ _ _) (setReg_outer _ _ _) ((setReg_same _ _ _).2.2)).drew⟩
end
end Go.Proofs.Ythejnpignlhgiaa.Istep2

namespace Go.Proofs.Ythejnpignlhgiaa.Icall
open Lib (hid)
open Go.ChangeShapes Go.WideShapes Go.ChangeAt Go.RowKit
open PL Mem Srun Sst Imem Itell Irec Leav
def frame0 (f D arg : Int) : Option RD → Fr
 | none => newFrame f D arg
 | some d => { newFrame f D arg with deferred := true, outer := d.c.r1, panicking := decide (d.k = 2), panic := if d.k = 2 then d.v else 0 }
theorem frame0_leaving (f D arg : Int) (rd : Option RD) : (frame0 f D arg rd).leaving = false := by cases rd <;> rfl
def CallI (w : World) (lo mb : Nat) (vp : Value) (fuel : Int) (tv0 : Value) (rd : Option RD) (op : Int) (r : M × Fr) (e : Ending) (W' : World) : Prop :=
 (r.1.spent = true → SpentE e ∧ ∃ tv op', Ilf (w : World) lo mb vp fuel tv0 rd tv op' r.1 W') ∧
 (r.1.spent = false → ∃ tv cb dv, e = .returned (.pointer (some ⟨cb, 0, none⟩)) ∧ w.heap.size ≤ cb ∧ Ilf (w : World) lo mb vp fuel tv0 rd tv op r.1 W' ∧
  Blk W' cb 186 (ccells r.2 (rptr rd) dv r.2.kind (endVal r.2)) ∧ RunB W' r.2.outer rd)
def OkI (lo mb : Nat) (Ap : Option Addr) (np cp : Nat) (p : Pg) (fuel D : Int) (inner : PL.Call) : Prop :=
 ∀ (K : Int) (m : M) (f arg : Int) (rd : Option RD) (tv : Value) (w : World), Inv np fuel K m (frame0 f D arg rd) → K ≤ 5000 → m.spent = false → Bse (w : World) lo mb tv rd → Tre w lo tv m.trace →
  Blk w mb 104 (icells (.slice Ap np cp) fuel m (D - 1) tv) → RdP w lo Ap p → RunB w (frame0 f D arg rd).outer rd →
  Calls Try.prog 128 #[.pointer (some ⟨mb, 0, none⟩), .int .i64 f, .int .i64 arg, rptr rd] w (CallI w lo mb (.slice Ap np cp) fuel tv rd (D - 1) (inner m (frame0 f D arg rd)))
section
variable {w : Bs} {W W' : World} {lo mb cb : Nat} {vp : Value} {fuel : Int} {tv0 : Value} {rd : Option RD} {tv dv tv' dv' : Value} {op op' D K : Int} {m m' : M} {c c' : Fr} {k v k' v' : Int}
theorem ist_bse (h : Ist w lo mb cb vp fuel tv0 rd tv dv op m c k v W) : Bse (W : World) lo mb tv none :=
 ⟨h.loW, h.b.m0, Nat.lt_of_lt_of_le h.b.m1 h.size, fun d hd => (by cases hd), fun d hd => (by cases hd), fun x hx => (World.ownsRow.lt h.l.tre x hx).1, fun x hx => hx.elim⟩
theorem ist_spent (h : Ist w lo mb cb vp fuel tv0 rd tv dv op m c k v W) (g : Ilf (W : World) lo mb vp fuel tv none tv' op' m' W') : Ilf w lo mb vp fuel tv0 rd tv' op' m' W' := (h.called g).l
def MakeC (w : Bs) (lo mb cb : Nat) (vp : Value) (fuel : Int) (tv0 : Value) (rd : Option RD) (dv : Value) (D : Int) (c : Fr) (r : M × Fr) (e : Ending) (W' : World) : Prop :=
 (r.1.spent = true → SpentE e ∧ ∃ tv op', Ilf w lo mb vp fuel tv0 rd tv op' r.1 W') ∧
 (r.1.spent = false → ∃ tv, Ist w lo mb cb vp fuel tv0 rd tv dv D r.1 (innerEnd c r.2 0).1 0 0 W' ∧ (r.2.kind = 1 → e = .returned (.tuple #[])) ∧
  (r.2.kind ≠ 1 → e = .panicked [{ v := endV (innerEnd c r.2 0).1.kind (endVal (innerEnd c r.2 0).1), recovered := false }]))
set_option maxRecDepth 100000 in
set_option maxHeartbeats 4000000 in
theorem makeCall_any {Ap : Option Addr} {np cp : Nat} {p : Pg} {inner : PL.Call} (OK : OkI lo mb Ap np cp p fuel (D + 1) inner) (hLv : LvC inner) (h : Ist w lo mb cb (.slice Ap np cp) fuel tv0 rd tv dv D m c 0 0 W) (f arg : Int)
  (hi : Inv np fuel K m (newFrame f (D + 1) arg)) (hK : K ≤ 5000) (hsp : m.spent = false) (hrd : RdP w.w lo Ap p) (hlv : c.leaving = false) (hk : c.kind = 1) :
  Calls Try.prog 148 #[.pointer (some ⟨mb, 0, none⟩), .pointer (some ⟨cb, 0, none⟩), .int .i64 f, .int .i64 arg] W (MakeC w lo mb cb (.slice Ap np cp) fuel tv0 rd dv D c (inner m (newFrame f (D + 1) arg))) := by
 have hm : Blk W mb 104 (icells (.slice Ap np cp) fuel m (D + 1 - 1) tv) := by
  rw [show D + 1 - 1 = D by omega]
  exact h.l.mach
 have hc := OK K m f arg none tv W hi hK hsp (ist_bse h) h.l.tre hm (hrd.below h.below) (fun d hd => by cases hd)
 have hv := hLv m (newFrame f (D + 1) arg) rfl
 have hc' : Calls Try.prog 128 #[.pointer (some ⟨mb, 0, none⟩), .int .i64 f, .int .i64 arg, .pointer none] W (CallI W lo mb (.slice Ap np cp) fuel tv none (D + 1 - 1) (inner m (newFrame f (D + 1) arg))) := hc
 rw [show D + 1 - 1 = D by omega] at hc'
 generalize inner m (newFrame f (D + 1) arg) = r at *
 have H := hid h
 have HC := hid hc'
 have HV := hid hv
 clear h hc hc' hv OK hLv hi hrd hm hsp
 go_enter Try.func148, Try.ntmps148
 go_wp2_with fail
 refine HC.out.mono ?_
 rintro e W1 ⟨h1, h2⟩
 cases hs : r.1.spent with
 | true =>
  obtain ⟨⟨older, rfl, ho⟩, tv1, op1, g⟩ := h1 hs
  have HS := hid hs
  have G := hid (ist_spent H.out g)
  clear h1 h2 hs
  exact ⟨rfl, fun _ => ⟨⟨older, rfl, ho⟩, tv1, op1, G.out⟩, fun hx => (by rw [HS.out] at hx; cases hx)⟩
 | false =>
  obtain ⟨tv1, cb1, dv1, rfl, hcb, g, b, _⟩ := h2 hs
  obtain ⟨v1, v2, v3⟩ := HV.out hs
  have Q := hid (H.out.called g)
  have HS := hid hs
  have y9 : W1.cell? ⟨cb, 9, none⟩ = some (.bool false) := (Q.out.blk.cells 9).trans (congrArg (fun x => some (Value.bool x)) hlv)
  have f1 := Q.out.blk.frozen
  have hne : cb ≠ cb1 := by
   have := H.out.blk.lt
   omega
  clear h1 h2 hs g
  have h3 : r.2.kind = 1 ∨ r.2.kind = 2 ∨ r.2.kind = 3 := by omega
  rcases h3 with h3 | h3 | h3
  ·have hl2 : r.2.leaving = false := by
    cases hx : r.2.leaving with
    | false => rfl
    | true => exact absurd h3 (v1 hx)
   have b9 : W1.cell? ⟨cb1, 9, none⟩ = some (.bool false) := (b.cells 9).trans (congrArg (fun x => some (Value.bool x)) hl2)
   have Q2 := hid (Q.out.putc (c' := c) (k' := 0) (v' := 0) 9 (.bool false) (by unfold ccells; rw [hlv]; rfl) rfl rfl ⟨rfl, rfl, rfl⟩)
   have b2 := b.far ⟨cb, 9, none⟩ (.bool false) (Ne.symm hne)
   have b7 : (W1.setCell ⟨cb, 9, none⟩ (.bool false)).cell? ⟨cb1, 7, none⟩ = some (.int .i64 1) := (b2.cells 7).trans (congrArg (fun x => some (Value.int .i64 x)) h3)
   have b8 : (W1.setCell ⟨cb, 9, none⟩ (.bool false)).cell? ⟨cb1, 8, none⟩ = some (.int .i64 r.2.r1) := (b2.cells 8).trans (congrArg (fun x => some (Value.int .i64 x)) (by unfold endVal; rw [if_pos h3]))
   have y3 : (W1.setCell ⟨cb, 9, none⟩ (.bool false)).cell? ⟨cb, 3, none⟩ = some (.int .i64 c.r2) := Q2.out.blk.cells 3
   have f2 := Q2.out.blk.frozen
   have HI := hid (show innerEnd c r.2 0 = ({ c with r2 := r.2.r1 }, 0 + 1) by unfold innerEnd; rw [if_pos h3])
   have H3 := hid h3
   clear b b2 v1 v2 v3 hl2 h3 hlv
   go_wp2_with fail
   go_region
   go_wp2_with fail
   go_end0
   refine ⟨fun hx => (by rw [HS.out] at hx; cases hx), fun _ => ⟨tv1, ?_, fun _ => rfl, fun hx => absurd H3.out hx⟩⟩
   rw [HI.out]
   exact (Q2.out.putc (c' := { c with r2 := r.2.r1 }) 3 (.int .i64 r.2.r1) rfl rfl rfl ⟨rfl, rfl, rfl⟩).drew
  ·have b9 : W1.cell? ⟨cb1, 9, none⟩ = some (.bool r.2.leaving) := b.cells 9
   have Q2 := hid (Q.out.putc (c' := { c with leaving := r.2.leaving }) (k' := 0) (v' := 0) 9 (.bool r.2.leaving) rfl rfl rfl ⟨rfl, rfl, rfl⟩)
   have b2 := b.far ⟨cb, 9, none⟩ (.bool r.2.leaving) (Ne.symm hne)
   have b7 : (W1.setCell ⟨cb, 9, none⟩ (.bool r.2.leaving)).cell? ⟨cb1, 7, none⟩ = some (.int .i64 2) := (b2.cells 7).trans (congrArg (fun x => some (Value.int .i64 x)) h3)
   have b8 : (W1.setCell ⟨cb, 9, none⟩ (.bool r.2.leaving)).cell? ⟨cb1, 8, none⟩ = some (.int .i64 r.2.value) := (b2.cells 8).trans (congrArg (fun x => some (Value.int .i64 x)) (by unfold endVal; rw [if_neg (by omega), if_pos h3]))
   have HI := hid (show innerEnd c r.2 0 = ({ c with kind := 2, value := r.2.value, leaving := r.2.leaving }, -1) by unfold innerEnd; rw [if_neg (by omega), if_pos h3, hlv, Bool.false_or])
   have H3 := hid h3
   clear b b2 v1 v2 v3 h3 hlv
   go_wp2_with fail
   refine ⟨rfl, fun hx => (by rw [HS.out] at hx; cases hx), fun _ => ⟨tv1, ?_, fun hx => (by rw [H3.out] at hx; cases hx), fun _ => ?_⟩⟩
   ·rw [HI.out]
    exact Q2.out.as rfl rfl ⟨rfl, rfl, rfl⟩ rfl
   ·rw [HI.out]; rfl
  ·have b9 : W1.cell? ⟨cb1, 9, none⟩ = some (.bool r.2.leaving) := b.cells 9
   have Q2 := hid (Q.out.putc (c' := { c with leaving := r.2.leaving }) (k' := 0) (v' := 0) 9 (.bool r.2.leaving) rfl rfl rfl ⟨rfl, rfl, rfl⟩)
   have b2 := b.far ⟨cb, 9, none⟩ (.bool r.2.leaving) (Ne.symm hne)
   have b7 : (W1.setCell ⟨cb, 9, none⟩ (.bool r.2.leaving)).cell? ⟨cb1, 7, none⟩ = some (.int .i64 3) := (b2.cells 7).trans (congrArg (fun x => some (Value.int .i64 x)) h3)
   have b8 : (W1.setCell ⟨cb, 9, none⟩ (.bool r.2.leaving)).cell? ⟨cb1, 8, none⟩ = some (.int .i64 0) := (b2.cells 8).trans (congrArg (fun x => some (Value.int .i64 x)) (by unfold endVal; rw [if_neg (by omega), if_neg (by omega)]))
   have HI := hid (show innerEnd c r.2 0 = ({ c with kind := 3, leaving := r.2.leaving }, -1) by unfold innerEnd; rw [if_neg (by omega), if_neg (by omega), if_pos h3, hlv, Bool.false_or])
   have H3 := hid h3
   clear b b2 v1 v2 v3 h3 hlv
   go_wp2_with fail
   refine ⟨rfl, fun hx => (by rw [HS.out] at hx; cases hx), fun _ => ⟨tv1, ?_, fun hx => (by rw [H3.out] at hx; cases hx), fun _ => ?_⟩⟩
   ·rw [HI.out]
    exact Q2.out.as rfl rfl ⟨rfl, rfl, rfl⟩ rfl
   ·rw [HI.out]; rfl
end
end Go.Proofs.Ythejnpignlhgiaa.Icall
