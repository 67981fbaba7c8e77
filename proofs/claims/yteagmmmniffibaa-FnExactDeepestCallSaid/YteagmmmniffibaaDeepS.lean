/- spec.DeepestCall: the machine's depth. -/
import Derived.Test.YteagmmmniffibaaM12
import Derived.Test.YteagmmmniffibaaM2
import Derived.Test.YteagmmmniffibaaM14
namespace Go.Proofs.Yteagmmmniffibaa.DeepP
set_option linter.unusedVariables false
set_option linter.unusedSimpArgs false
open Go.ChangeShapes Go.WideShapes Go.ChangeAt Go.RowKit
open PL Mem Srun Sst Ssim Smk To OwnS AskP Res Swhole Sout LawN

def deepR (p : Pg) (f arg fuel : Int) : Int × Bool := ((ods (runR p f arg fuel).1.trace).2, (runR p f arg fuel).2)
theorem deepR_true {p : Pg} {f arg fuel : Int} (ha : asks p f arg fuel = true) : deepR p f arg fuel = ((whole p fuel f arg).1.deep, true) := by
  unfold deepR runR
  rw [ha, if_pos rfl]
  show ((ods (whole p fuel f arg).1.trace).2, true) = _
  rw [(whole_J p fuel f arg).1]
set_option maxRecDepth 100000 in
set_option maxHeartbeats 4000000 in
theorem deepS_any (lo n c : Nat) (A : Option Addr) (p : Pg) (f arg fuel : Int) (hn : n ≤ 9223372036854775807) (hl : p.length = n) (hsm : Small p 9223372036854775807) (w : World) (ho : OwnP w lo (.slice A n c) p) :
    Calls Try.prog 30 #[.agg #[.slice A n c], .int .i64 f, .int .i64 arg, .int .i64 fuel] w (NumR (deepR p f arg fuel) w) := by
  have hq := Lib.hid (fun W (h : Below w.heap.size w W) => l2Ask_any w.heap.size A n c p f arg fuel hn hl hsm W (ho.rd.below h) h.size)
  have hal : ∀ o1 : Obj, Below w.heap.size w (w.alloc o1) := fun o1 => (Below.refl _ _).alloc (Nat.le_refl _) _
  have HAL := Lib.hid hal
  cases ha : asks p f arg fuel with
  | false =>
    have hr := Lib.hid (show deepR p f arg fuel = (0, false) by unfold deepR runR; rw [ha]; rfl)
    rw [ha] at hq
    clear ha ho hsm hal
    go_enter Try.func30, Try.ntmps30
    go_wp2_with fail
    refine (hq.out _ (HAL.out _)).mono ?_
    rintro e w1 ⟨rfl, b1⟩
    go_wp2_with fail
    go_ret2
    exact ⟨by rw [hr.out] <;> rfl, (HAL.out _).trans (b1.mono (HAL.out _).size)⟩
  | true =>
    obtain ⟨h1, h2, h3, h4, h5, h6⟩ := start_wf (n := n) ha
    have hn6 : p.length ≤ 6 ∧ Small p 8 := okProg_small h1
    have hru := Lib.hid (fun W (h : Below w.heap.size w W) => whole_any lo n c A p f arg fuel hl (hn6.2.mono (by omega)) (by omega) ha W (ho.below h))
    have hr := Lib.hid (deepR_true ha)
    rw [ha] at hq
    clear ha ho hsm hal h1 h2 h3 h4 h5 h6 hn6
    generalize whole p fuel f arg = r at *
    obtain ⟨m, fr⟩ := r
    go_enter Try.func30, Try.ntmps30
    go_wp2_with fail
    refine (hq.out _ (HAL.out _)).mono ?_
    rintro e w1 ⟨rfl, b1⟩
    have a1' : w1.cell? ⟨w.heap.size, 0, none⟩ = some (.slice A n c) := (Blk.below (heap1_0 w (.cells #[.slice A n c] 33)) b1 (by simp)).cells 0
    have bb := Lib.hid ((HAL.out (.cells #[.slice A n c] 33)).trans (b1.mono (HAL.out _).size))
    clear b1 hq
    go_wp2_with fail
    refine (hru.out _ bb.out).mono ?_
    rintro e w2 ⟨A1, n1, c1, A2, c2, A3, n3, c3, A4, n4, c4, rfl, ht, b2⟩
    unfold mval fval
    dsimp only at ht ⊢
    clear a1' hru
    go_upto_region 4 with fail
    change (fun V => Code.wp _ _ _ _ V) _
    refine gen_world (X := fun V => V.cell? ⟨w2.heap.size, 5, none⟩ = some (.int .i64 m.deep) ∧ Below w2.heap.size w2 V) ⟨Blk.cells (heap2_0 w2 (.cells #[_, _, _, _, _, .int .i64 m.deep, _, _] _) _) 5, ((Below.refl _ _).alloc (Nat.le_refl _) _).alloc (by simp) _⟩ ?_
    rintro w3 ⟨z5, b3⟩
    have B3 := Lib.hid ((bb.out.trans (b2.mono bb.out.size)).trans (b3.mono (bb.out.trans (b2.mono bb.out.size)).size))
    clear b3 b2 bb ht
    go_wp2_with fail
    go_ret2
    exact ⟨by rw [hr.out] <;> rfl, B3.out⟩
end Go.Proofs.Yteagmmmniffibaa.DeepP
