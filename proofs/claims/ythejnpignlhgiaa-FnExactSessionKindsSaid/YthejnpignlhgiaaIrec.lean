import Derived.Test.YthejnpignlhgiaaM15
import Derived.RegionTactic
import Derived.BigRegion
import Derived.BigQuiet
import Derived.Deep.DeepCutAuto
import Derived.Deep.CutBlock
set_option linter.all false
namespace Go.Proofs.Ythejnpignlhgiaa.Irec
open Lib (hid)
open Go.ChangeShapes Go.WideShapes Go.ChangeAt Go.RowKit
open PL Mem Srun Sst Imem Itell
def endVal (c : Fr) : Int := if c.kind = 1 then c.r1 else if c.kind = 2 then c.value else 0
section
variable {w : Bs} {W : World} {lo mb cb : Nat} {vp : Value} {fuel : Int} {tv0 : Value} {rd : Option RD} {tv dv : Value} {op : Int} {m : M} {c : Fr} {k v : Int}
set_option maxRecDepth 100000 in
set_option maxHeartbeats 2000000 in
theorem finish_any (h : Ist w lo mb cb vp fuel tv0 rd tv dv op m c c.kind (endVal c) W) (h0 : 1 ≤ op) (h8 : op ≤ 8) (hk : 1 ≤ c.kind ∧ c.kind ≤ 3) (hl : m.trace.length ≤ 100000) :
  Calls Try.prog 139 #[.pointer (some ⟨mb, 0, none⟩), .pointer (some ⟨cb, 0, none⟩)] W fun e W' => ∃ tv', e = .returned (.tuple #[]) ∧ Ist w lo mb cb vp fuel tv0 rd tv' dv (op - 1) (PL.finish m c) c c.kind (endVal c) W' := by
 have H := hid h
 have z3 : W.cell? ⟨mb, 3, none⟩ = some (.int .i64 op) := h.l.mach.cells 3
 have f0 := h.l.mach.frozen
 have Q := hid (h.putm (m' := m) (op' := op - 1) 3 (.int .i64 (op - 1)) rfl rfl)
 have y0 : (W.setCell ⟨mb, 3, none⟩ (.int .i64 (op - 1))).cell? ⟨cb, 0, none⟩ = some (.int .i64 c.f) := Q.out.blk.cells 0
 have hk3 : c.kind = 1 ∨ c.kind = 2 ∨ c.kind = 3 := by omega
 clear h hk
 rcases hk3 with h1 | h1 | h1
 ·have y7 : (W.setCell ⟨mb, 3, none⟩ (.int .i64 (op - 1))).cell? ⟨cb, 7, none⟩ = some (.int .i64 1) := (Q.out.blk.cells 7).trans (congrArg (fun x => some (Value.int .i64 x)) h1)
  have y8 : (W.setCell ⟨mb, 3, none⟩ (.int .i64 (op - 1))).cell? ⟨cb, 8, none⟩ = some (.int .i64 c.r1) := (Q.out.blk.cells 8).trans (congrArg (fun x => some (Value.int .i64 x)) (by unfold endVal; rw [if_pos h1]))
  have HF := hid (show PL.finish m c = PL.tell m 7 c.f c.r1 by unfold PL.finish; rw [if_pos h1])
  clear h1
  go_enter Try.func139, Try.ntmps139
  go_wp2_with fail
  go_region_with (go_at_call 142; refine (tellI_any Q.out.drew 7 c.f c.r1 hl).mono ?_; rintro e W' ⟨tv', rfl, h', _⟩)
  all_goals
   go_wp2_with fail
   go_end0
   exact ⟨tv', rfl, by rw [HF.out]; exact h'⟩
 ·have y7 : (W.setCell ⟨mb, 3, none⟩ (.int .i64 (op - 1))).cell? ⟨cb, 7, none⟩ = some (.int .i64 2) := (Q.out.blk.cells 7).trans (congrArg (fun x => some (Value.int .i64 x)) h1)
  have y8 : (W.setCell ⟨mb, 3, none⟩ (.int .i64 (op - 1))).cell? ⟨cb, 8, none⟩ = some (.int .i64 c.value) := (Q.out.blk.cells 8).trans (congrArg (fun x => some (Value.int .i64 x)) (by unfold endVal; rw [if_neg (by omega), if_pos h1]))
  have HF := hid (show PL.finish m c = PL.tell m 8 c.f c.value by unfold PL.finish; rw [if_neg (by omega), if_pos h1])
  clear h1
  go_enter Try.func139, Try.ntmps139
  go_wp2_with fail
  go_region_with (go_at_call 142; refine (tellI_any Q.out.drew 8 c.f c.value hl).mono ?_; rintro e W' ⟨tv', rfl, h', _⟩)
  all_goals
   go_wp2_with fail
   go_end0
   exact ⟨tv', rfl, by rw [HF.out]; exact h'⟩
 ·have y7 : (W.setCell ⟨mb, 3, none⟩ (.int .i64 (op - 1))).cell? ⟨cb, 7, none⟩ = some (.int .i64 3) := (Q.out.blk.cells 7).trans (congrArg (fun x => some (Value.int .i64 x)) h1)
  have y8 : (W.setCell ⟨mb, 3, none⟩ (.int .i64 (op - 1))).cell? ⟨cb, 8, none⟩ = some (.int .i64 0) := (Q.out.blk.cells 8).trans (congrArg (fun x => some (Value.int .i64 x)) (by unfold endVal; rw [if_neg (by omega), if_neg (by omega)]))
  have HF := hid (show PL.finish m c = PL.tell m 9 c.f 0 by unfold PL.finish; rw [if_neg (by omega), if_neg (by omega), if_pos h1])
  clear h1
  go_enter Try.func139, Try.ntmps139
  go_wp2_with fail
  go_region_with (go_at_call 142; refine (tellI_any Q.out.drew 9 c.f 0 hl).mono ?_; rintro e W' ⟨tv', rfl, h', _⟩)
  all_goals
   go_wp2_with fail
   go_end0
   exact ⟨tv', rfl, by rw [HF.out]; exact h'⟩
theorem setReg_outer (c : Fr) (i v : Int) : (setReg c i v).outer = c.outer := by unfold setReg; split <;> (try split) <;> (try split) <;> rfl
theorem recover_not (h : Ist w lo mb cb vp fuel tv0 rd tv dv op m c k v W) (r : Int) (hr0 : 0 ≤ r) (hr4 : r < 4) (hn : (c.panicking && !c.recovered) = false) :
  Calls Try.prog 149 #[.pointer (some ⟨mb, 0, none⟩), .pointer (some ⟨cb, 0, none⟩), .int .i64 r] W fun e W' => e = .returned (.tuple #[]) ∧ Ist w lo mb cb vp fuel tv0 rd tv dv op m (setReg (setReg c r 0) 3 0) k v W' := by
 have H := hid h
 have Q := hid (h.putc (c' := setReg c r 0) (1 + r.toNat) (.int .i64 0) (ccells_set c _ _ _ _ r 0 hr0 hr4) (setReg_defers _ _ _) (setReg_outer _ _ _) ((setReg_same c r 0).2.2))
 have za := (h.blk.cells (1 + r.toNat)).trans (ccells_reg c _ _ _ _ r hr0 hr4)
 have y5 : W.cell? ⟨cb, 5, none⟩ = some (rptr rd) := h.blk.cells 5
 have y10 : W.cell? ⟨cb, 10, none⟩ = some (.bool c.recovered) := h.blk.cells 10
 have f1 := h.blk.frozen
 have f2 := Q.out.blk.frozen
 have zb : (W.setCell ⟨cb, 1 + r.toNat, none⟩ (.int .i64 0)).cell? ⟨cb, 4, none⟩ = some (.int .i64 (setReg c r 0).r3) := Q.out.blk.cells 4
 have R := hid (Q.out.putc (c' := setReg (setReg c r 0) 3 0) 4 (.int .i64 0) (ccells_set (setReg c r 0) _ _ _ _ 3 0 (by decide) (by decide)) (setReg_defers _ _ _) (setReg_outer _ _ _) ((setReg_same _ 3 0).2.2))
 cases rd with
 | none =>
  unfold rptr at y5
  clear h y10
  go_enter Try.func149, Try.ntmps149
  go_wp2_with fail
  first | go_end0 | refine bodyPost_ret (results_none rfl _ _ _) rfl ?_
  exact ⟨rfl, R.out⟩
 | some d =>
  obtain ⟨hd, hp, hq⟩ := h.runF
  unfold rptr at y5
  by_cases h2 : d.k = 2
  ·have w7 : W.cell? ⟨d.b, 7, none⟩ = some (.int .i64 2) := ((h.runB d rfl).cells 7).trans (congrArg (fun x => some (Value.int .i64 x)) h2)
   have hrc : c.recovered = true := by
    rw [hp, h2] at hn
    simpa using hn
   rw [hrc] at y10
   clear h hd hp hq h2 hn hrc
   go_enter Try.func149, Try.ntmps149
   go_wp2_with fail
   first | go_end0 | refine bodyPost_ret (results_none rfl _ _ _) rfl ?_
   exact ⟨rfl, R.out⟩
  ·have w7 : W.cell? ⟨d.b, 7, none⟩ = some (.int .i64 d.k) := (h.runB d rfl).cells 7
   have h3 : (d.k != 2) = true := by simpa using h2
   clear h hd hp hq h2 hn y10
   go_enter Try.func149, Try.ntmps149
   go_wp2_with fail
   first | go_end0 | refine bodyPost_ret (results_none rfl _ _ _) rfl ?_
   exact ⟨rfl, R.out⟩
set_option maxRecDepth 100000 in
set_option maxHeartbeats 2000000 in
theorem recover_yes (h : Ist w lo mb cb vp fuel tv0 rd tv dv op m c k v W) (r : Int) (hr0 : 0 ≤ r) (hr4 : r < 4) (hp : c.panicking = true) (hc : c.recovered = false) (hl : m.trace.length ≤ 100000) :
  Calls Try.prog 149 #[.pointer (some ⟨mb, 0, none⟩), .pointer (some ⟨cb, 0, none⟩), .int .i64 r] W fun e W' => ∃ tv', e = .returned (.tuple #[]) ∧ Ist w lo mb cb vp fuel tv0 rd tv' dv op (PL.tell m 6 c.f c.panic) (setReg (setReg { c with recovered := true } r c.panic) 3 1) k v W' := by
 obtain ⟨d, rfl⟩ : ∃ d, rd = some d := by
  cases rd with
  | none => exact absurd h.runF.2 (by rw [hp]; decide)
  | some d => exact ⟨d, rfl⟩
 obtain ⟨hd, hp2, hq⟩ := h.runF
 have h2 : d.k = 2 := by
  rw [hp] at hp2
  simpa using hp2.symm
 have hv := hq h2
 have H := hid h
 have y5 : W.cell? ⟨cb, 5, none⟩ = some (.pointer (some ⟨d.b, 0, none⟩)) := h.blk.cells 5
 have y10 : W.cell? ⟨cb, 10, none⟩ = some (.bool false) := (h.blk.cells 10).trans (congrArg (fun x => some (Value.bool x)) hc)
 have w7 : W.cell? ⟨d.b, 7, none⟩ = some (.int .i64 2) := ((h.runB d rfl).cells 7).trans (congrArg (fun x => some (Value.int .i64 x)) h2)
 have f1 := h.blk.frozen
 have Q0 := hid (h.putc (c' := { c with recovered := true }) 10 (.bool true) rfl rfl rfl ⟨rfl, rfl, rfl⟩)
 obtain ⟨W1, hW1⟩ : ∃ W1, W.setCell ⟨cb, 10, none⟩ (.bool true) = W1 := ⟨_, rfl⟩
 rw [hW1] at Q0
 clear h hd hp hp2 hq h2 hc
 go_enter Try.func149, Try.ntmps149
 go_upto_region 4 with fail
 clear hW1 y5 y10 w7 f1 H
 have Q1 := hid (Q0.out.putc (c' := setReg { c with recovered := true } r c.panic) (1 + r.toNat) (.int .i64 c.panic) (ccells_set _ _ _ _ _ r _ hr0 hr4) (setReg_defers _ _ _) (setReg_outer _ _ _) ((setReg_same _ r _).2.2))
 have za := (Q0.out.blk.cells (1 + r.toNat)).trans (ccells_reg _ _ _ _ _ r hr0 hr4)
 have y5 : W1.cell? ⟨cb, 5, none⟩ = some (.pointer (some ⟨d.b, 0, none⟩)) := Q0.out.blk.cells 5
 have w8 : W1.cell? ⟨d.b, 8, none⟩ = some (.int .i64 c.panic) := ((Q0.out.runB d rfl).cells 8).trans (congrArg (fun x => some (Value.int .i64 x)) hv)
 have f1 := Q0.out.blk.frozen
 go_wp2_with fail
 go_region
 change (fun V => Exit.then _ _ _ _ V) _
 refine gen_world (X := fun V => Ist w lo mb cb vp fuel tv0 (some d) tv dv op m (setReg { c with recovered := true } r c.panic) k v V) Q1.out.drew ?_
 intro V hV
 clear Q1 za y5 w8 f1 Q0
 have zb : V.cell? ⟨cb, 4, none⟩ = some (.int .i64 (setReg { c with recovered := true } r c.panic).r3) := hV.blk.cells 4
 have f2 := hV.blk.frozen
 have Q2 := hid (hV.putc (c' := setReg (setReg { c with recovered := true } r c.panic) 3 1) 4 (.int .i64 1) (ccells_set _ _ _ _ _ 3 1 (by decide) (by decide)) (setReg_defers _ _ _) (setReg_outer _ _ _) ((setReg_same _ 3 1).2.2))
 have HV := hid hV
 clear hV
 go_upto_region 6 with fail
 clear zb f2 HV
 generalize V.setCell ⟨cb, 4, none⟩ (.int .i64 1) = V2 at *
 have hf : (setReg (setReg { c with recovered := true } r c.panic) 3 1).f = c.f := ((setReg_same _ 3 1).2.1).trans ((setReg_same { c with recovered := true } r c.panic).2.1)
 have y0 : V2.cell? ⟨cb, 0, none⟩ = some (.int .i64 c.f) := (Q2.out.blk.cells 0).trans (congrArg (fun x => some (Value.int .i64 x)) hf)
 have y5 : V2.cell? ⟨cb, 5, none⟩ = some (.pointer (some ⟨d.b, 0, none⟩)) := Q2.out.blk.cells 5
 have w8 : V2.cell? ⟨d.b, 8, none⟩ = some (.int .i64 c.panic) := ((Q2.out.runB d rfl).cells 8).trans (congrArg (fun x => some (Value.int .i64 x)) hv)
 clear hf
 go_wp2_with fail
 go_region_with (go_at_call 142; refine (tellI_any Q2.out.drew 6 c.f c.panic hl).mono ?_; rintro e W' ⟨tv', rfl, h', _⟩)
 all_goals
  go_wp2_with fail
  go_end0
  exact ⟨tv', rfl, h'⟩
end
end Go.Proofs.Ythejnpignlhgiaa.Irec
-- squeezed
