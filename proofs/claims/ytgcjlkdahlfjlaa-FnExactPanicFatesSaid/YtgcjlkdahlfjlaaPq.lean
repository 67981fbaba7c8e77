/- The model's PanicFates. (Written by wip/tools/genpq.py.) -/
import Derived.Test.YtgcjlkdahlfjlaaPo
namespace Go.Proofs.Ytgcjlkdahlfjlaa.Pq
set_option linter.unusedVariables false
set_option linter.unusedSimpArgs false
open Go.ChangeShapes Go.WideShapes Go.ChangeAt Go.RowKit
open PL Mem Srun Sst Ssim Smk To OwnS AskP RunF Res Swhole Sout IntsP RowA LawI LawA PMem Psf Pw Px Py Pr Pz Pt Po

theorem rec_field1 (a b c d e f g : Value) (w : World) : (Instr.field 61 (.agg #[a, b, c, d, e, f, g]) 1).run Try.prog w = .ok b w := by kernel_rfl
/-- A call that returns a list of three integers each and a bool. -/
def T3R (r : List Tr × Bool) (w : World) (e : Ending) (w' : World) : Prop :=
 ∃ A c, e = .returned (.tuple #[.slice A r.1.length c, .bool r.2]) ∧ Own3 w' w.heap.size (.slice A r.1.length c) r.1 ∧ Below w.heap.size w w'
def pftR (p : Pg) (f arg fuel : Int) : List Tr × Bool := ((panR p f arg fuel).1.pan.map p3, (panR p f arg fuel).2)
theorem pftR_len (p : Pg) (f arg fuel : Int) : (pftR p f arg fuel).1.length ≤ 100000 := by
 unfold pftR
 rw [List.length_map]; exact (panR_lens p f arg fuel).pan
set_option maxRecDepth 100000 in
set_option maxHeartbeats 4000000 in
theorem pftS_any (lo n c : Nat) (A : Option Addr) (p : Pg) (f arg fuel : Int) (hn : n ≤ 9223372036854775807) (hl : p.length = n) (hsm : Small p 9223372036854775807) (w : World) (ho : OwnP w lo (.slice A n c) p) :
  Calls Try.prog 16 #[.agg #[.slice A n c], .int .i64 f, .int .i64 arg, .int .i64 fuel] w (T3R (pftR p f arg fuel) w) := by
 have hq := Lib.hid (fun W (h : Below w.heap.size w W) => l2Ask_any w.heap.size A n c p f arg fuel hn hl hsm W (ho.rd.below h) h.size)
 have HAL := Lib.hid (fun o1 : Obj => ((Below.refl w.heap.size w).alloc (Nat.le_refl _) o1))
 cases ha : asks p f arg fuel with
 | false =>
  have hr := Lib.hid (show pftR p f arg fuel = ([], false) by unfold pftR panR; rw [ha]; rfl)
  rw [ha] at hq
  clear ha ho hsm
  go_enter Try.func16, Try.ntmps16
  go_wp2_with fail
  refine (hq.out _ (HAL.out _)).mono ?_
  rintro e w1 ⟨rfl, b1⟩
  have B := Lib.hid ((HAL.out (.cells #[.slice A n c] 31)).trans (b1.mono (HAL.out (.cells #[.slice A n c] 31)).size))
  clear b1
  go_wp2_with fail
  go_ret2
  exact ⟨_, _, by rw [hr.out] <;> rfl, by rw [hr.out]; exact App.empty_own (heap1_0 w1 _) B.out.size, B.out.alloc B.out.size _⟩
 | true =>
  obtain ⟨g1, g2, g3, g4, g5, g6⟩ := start_wf (n := n) ha
  have hn6 : p.length ≤ 6 ∧ Small p 8 := okProg_small g1
  have hru := Lib.hid (fun W (h : Below w.heap.size w W) => l4Of_any lo n c A p f arg fuel hl (hn6.2.mono (by omega)) (by omega) ha W (ho.below h))
  have hrr : panR p f arg fuel = (mds (run p fuel f arg).trace, true) := by unfold panR; rw [ha]; rfl
  have hr : pftR p f arg fuel = ((mds (run p fuel f arg).trace).pan.map p3, true) := by unfold pftR; rw [hrr]
  rw [ha] at hq
  clear ha ho hsm g1 g2 g3 g4 g5 g6 hn6 hrr
  generalize mds (run p fuel f arg).trace = s at *
  have HR := Lib.hid hr
  clear hr
  go_enter Try.func16, Try.ntmps16
  go_wp2_with fail
  refine (hq.out _ (HAL.out _)).mono ?_
  rintro e w1 ⟨rfl, b1⟩
  have a1' : w1.cell? ⟨w.heap.size, 0, none⟩ = some (.slice A n c) := (Blk.below (B := w.heap.size + 1) (heap1_0 w (.cells #[.slice A n c] 31)) (by simpa using b1) (by omega)).cells 0
  have bb := Lib.hid ((HAL.out (.cells #[.slice A n c] 31)).trans (b1.mono (HAL.out (.cells #[.slice A n c] 31)).size))
  clear b1 hq
  go_wp2_with fail
  refine (hru.out _ bb.out).mono ?_
  rintro e w2 ⟨h0, h1, h2, h3, h4, h5, h6, rfl, hW, b2⟩
  have hf := fun u => rec_field1 (.slice h0.A s.stk.length h0.c) (.slice h1.A s.pan.length h1.c) (.slice h2.A s.pan.length h2.c) (.slice h3.A s.pan.length h3.c) (.slice h4.A s.rcv.length h4.c) (.slice h5.A s.pan.length h5.c) (.slice h6.A s.pan.length h6.c) u
  have B2 := Lib.hid (bb.out.trans (b2.mono bb.out.size))
  have WU := Lib.hid (W4.low hW bb.out.size)
  clear a1' hru b2 bb hW
  go_wp2_with fail
  go_ret2
  exact ⟨h1.A, h1.c, by rw [HR.out] <;> simp, by rw [HR.out]; have := WU.out.pan; first | exact this | (unfold Own3; rw [List.length_map]; exact this), B2.out⟩
end Go.Proofs.Ytgcjlkdahlfjlaa.Pq
-- squeezed
