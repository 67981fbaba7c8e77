/- FuelOf: what a run has spent. -/
import Derived.Test.YteagmmmniffibaaIrp
import Derived.Test.YteagmmmniffibaaM12
import Derived.Test.YteagmmmniffibaaM2
namespace Go.Proofs.Yteagmmmniffibaa.FuelP
set_option linter.unusedVariables false
set_option linter.unusedSimpArgs false
open Go.ChangeShapes Go.WideShapes Go.ChangeAt Go.RowKit
open PL Mem Srun Sst Ssim Smk To OwnS AskP Res Swhole Sout Irp LawN

def fuelR (p : Pg) (f arg : Int) : Int × Bool := if (runR p f arg 200).2 = true ∧ (runR p f arg 200).1.kind ≠ 4 then ((runR p f arg 200).1.spent, true) else (0, false)
theorem asks_fuel (p : Pg) (f arg : Int) : asks p f arg 0 = asks p f arg 200 := by unfold asks; simp
set_option maxRecDepth 100000 in
set_option maxHeartbeats 4000000 in
theorem fuelS_any (lo n c : Nat) (A : Option Addr) (p : Pg) (f arg : Int) (hn : n ≤ 9223372036854775807) (hl : p.length = n) (hsm : Small p 9223372036854775807) (w : World) (ho : OwnP w lo (.slice A n c) p) :
    Calls Try.prog 28 #[.agg #[.slice A n c], .int .i64 f, .int .i64 arg] w (NumR (fuelR p f arg) w) := by
  have hq := Lib.hid (fun W (h : Below w.heap.size w W) => (asks_fuel p f arg) ▸ l2Ask_any w.heap.size A n c p f arg 0 hn hl hsm W (ho.rd.below h) h.size)
  have hal : ∀ o1 : Obj, Below w.heap.size w (w.alloc o1) := fun o1 => (Below.refl _ _).alloc (Nat.le_refl _) _
  have HAL := Lib.hid hal
  cases ha : asks p f arg 200 with
  | false =>
    have hr := Lib.hid (show fuelR p f arg = (0, false) by unfold fuelR runR; rw [ha]; rfl)
    rw [ha] at hq
    clear ha ho hsm hal
    go_enter Try.func28, Try.ntmps28
    go_wp2_with fail
    refine (hq.out _ (HAL.out _)).mono ?_
    rintro e w1 ⟨rfl, b1⟩
    go_wp2_with fail
    go_ret2
    exact ⟨by rw [hr.out] <;> rfl, (HAL.out _).trans (b1.mono (HAL.out _).size)⟩
  | true =>
    obtain ⟨h1, h2, h3, h4, h5, h6⟩ := start_wf (n := n) ha
    have hn6 : p.length ≤ 6 ∧ Small p 8 := okProg_small h1
    have hru := Lib.hid (fun W (h : Below w.heap.size w W) => l2Run_any lo n c A p f arg 200 hl (hn6.2.mono (by omega)) (by omega) ha W (ho.below h))
    have hr : fuelR p f arg = if (run p 200 f arg).kind ≠ 4 then ((run p 200 f arg).spent, true) else (0, false) := by
      unfold fuelR runR; rw [ha]; simp
    rw [ha] at hq
    clear ha ho hsm hal h1 h2 h3 h4 h5 h6 hn6
    generalize run p 200 f arg = r at *
    obtain ⟨k, v, t, s⟩ := r
    dsimp only at hr
    by_cases hk : k = 4
    · have hr' := Lib.hid (show fuelR p f arg = (0, false) by rw [hr, if_neg (by simpa using hk)])
      have hkk := Lib.hid hk
      clear hr hk
      go_enter Try.func28, Try.ntmps28
      go_wp2_with fail
      refine (hq.out _ (HAL.out _)).mono ?_
      rintro e w1 ⟨rfl, b1⟩
      have a1 := (Blk.below (heap1_0 w (.cells #[.slice A n c] 33)) b1 (by simp)).cells 0
      have a1' : w1.cell? ⟨w.heap.size, 0, none⟩ = some (.slice A n c) := a1
      have bb := Lib.hid ((HAL.out (.cells #[.slice A n c] 33)).trans (b1.mono (HAL.out _).size))
      clear b1 hq a1
      go_wp2_with fail
      refine (hru.out _ bb.out).mono ?_
      rintro e w2 ⟨A2, c2, rfl, ht, b2⟩
      unfold outval
      have hk4 : (k == 4) = true := by rw [hkk.out]; rfl
      clear a1' hru
      go_upto_region 4 with fail
      change (fun V => Code.wp _ _ _ _ V) _
      refine gen_world (X := fun V => Blk V w2.heap.size 28 #[.int .i64 k, .int .i64 v, .slice A2 t.length c2, .int .i64 s] ∧ Below w2.heap.size w2 V) ⟨heap1_0 w2 _, (Below.refl _ _).alloc (Nat.le_refl _) _⟩ ?_
      rintro w3 ⟨h3, b3⟩
      have z0 := h3.cells 0
      have z3 := h3.cells 3
      have B3 := Lib.hid ((bb.out.trans (b2.mono bb.out.size)).trans (b3.mono (bb.out.trans (b2.mono bb.out.size)).size))
      clear h3 b3 b2 bb ht
      go_wp2_with fail
      go_ret2
      exact ⟨by rw [hr'.out] <;> rfl, B3.out⟩
    · have hr' := Lib.hid (show fuelR p f arg = (s, true) by rw [hr, if_pos hk])
      have hk4 : (k == 4) = false := by simpa using hk
      clear hr hk
      go_enter Try.func28, Try.ntmps28
      go_wp2_with fail
      refine (hq.out _ (HAL.out _)).mono ?_
      rintro e w1 ⟨rfl, b1⟩
      have a1 := (Blk.below (heap1_0 w (.cells #[.slice A n c] 33)) b1 (by simp)).cells 0
      have a1' : w1.cell? ⟨w.heap.size, 0, none⟩ = some (.slice A n c) := a1
      have bb := Lib.hid ((HAL.out (.cells #[.slice A n c] 33)).trans (b1.mono (HAL.out _).size))
      clear b1 hq a1
      go_wp2_with fail
      refine (hru.out _ bb.out).mono ?_
      rintro e w2 ⟨A2, c2, rfl, ht, b2⟩
      unfold outval
      clear a1' hru
      go_upto_region 4 with fail
      change (fun V => Code.wp _ _ _ _ V) _
      refine gen_world (X := fun V => Blk V w2.heap.size 28 #[.int .i64 k, .int .i64 v, .slice A2 t.length c2, .int .i64 s] ∧ Below w2.heap.size w2 V) ⟨heap1_0 w2 _, (Below.refl _ _).alloc (Nat.le_refl _) _⟩ ?_
      rintro w3 ⟨h3, b3⟩
      have z0 := h3.cells 0
      have z3 := h3.cells 3
      have B3 := Lib.hid ((bb.out.trans (b2.mono bb.out.size)).trans (b3.mono (bb.out.trans (b2.mono bb.out.size)).size))
      clear h3 b3 b2 bb ht
      go_wp2_with fail
      go_ret2
      exact ⟨by rw [hr'.out] <;> rfl, B3.out⟩
set_option maxRecDepth 100000 in
set_option maxHeartbeats 4000000 in
theorem fuelI_any (lo n c : Nat) (A : Option Addr) (p : Pg) (f arg : Int) (hn : n ≤ 9223372036854775807) (hl : p.length = n) (hsm : Small p 9223372036854775807) (w : World) (ho : OwnP w lo (.slice A n c) p) :
    Calls Try.prog 29 #[.agg #[.slice A n c], .int .i64 f, .int .i64 arg] w (NumR (fuelR p f arg) w) := by
  have hq := Lib.hid (fun W (h : Below w.heap.size w W) => runI_any lo n c A p f arg 200 hn hl hsm W (ho.below h))
  have hal : ∀ o1 : Obj, Below w.heap.size w (w.alloc o1) := fun o1 => (Below.refl _ _).alloc (Nat.le_refl _) _
  have HAL := Lib.hid hal
  have hr : fuelR p f arg = if (runR p f arg 200).2 = true ∧ (runR p f arg 200).1.kind ≠ 4 then ((runR p f arg 200).1.spent, true) else (0, false) := rfl
  generalize runR p f arg 200 = r at *
  obtain ⟨⟨k, v, t, s⟩, b⟩ := r
  dsimp only at hr
  have key : ∀ b', fuelR p f arg = (if b = true ∧ b' = false then (s, true) else (0, false)) → (k == 4) = b' → Calls Try.prog 29 #[.agg #[.slice A n c], .int .i64 f, .int .i64 arg] w (NumR (fuelR p f arg) w) := by
    intro b' hr' hk4
    have HR := Lib.hid hr'
    clear hr hr' ho hsm hal
    cases b with
    | false =>
      go_enter Try.func29, Try.ntmps29
      go_wp2_with fail
      refine (hq.out _ (HAL.out _)).mono ?_
      rintro e w2 ⟨A2, c2, rfl, ht, b2⟩
      unfold outval
      go_upto_region 2 with fail
      change (fun V => Code.wp _ _ _ _ V) _
      refine gen_world (X := fun V => Below w2.heap.size w2 V) ((Below.refl _ _).alloc (Nat.le_refl _) _) ?_
      rintro w3 b3
      have B3 := Lib.hid (((HAL.out (.cells #[.slice A n c] 33)).trans (b2.mono (HAL.out _).size)).trans (b3.mono ((HAL.out _).trans (b2.mono (HAL.out _).size)).size))
      clear b3 b2 ht
      go_wp2_with fail
      go_ret2
      exact ⟨by rw [HR.out] <;> rfl, B3.out⟩
    | true =>
      cases b' with
      | true =>
        go_enter Try.func29, Try.ntmps29
        go_wp2_with fail
        refine (hq.out _ (HAL.out _)).mono ?_
        rintro e w2 ⟨A2, c2, rfl, ht, b2⟩
        unfold outval
        go_upto_region 2 with fail
        change (fun V => Code.wp _ _ _ _ V) _
        refine gen_world (X := fun V => Blk V w2.heap.size 28 #[.int .i64 k, .int .i64 v, .slice A2 t.length c2, .int .i64 s] ∧ Below w2.heap.size w2 V) ⟨heap1_0 w2 _, (Below.refl _ _).alloc (Nat.le_refl _) _⟩ ?_
        rintro w3 ⟨h3, b3⟩
        have z0 := h3.cells 0
        have z3 := h3.cells 3
        have B3 := Lib.hid (((HAL.out (.cells #[.slice A n c] 33)).trans (b2.mono (HAL.out _).size)).trans (b3.mono ((HAL.out _).trans (b2.mono (HAL.out _).size)).size))
        clear h3 b3 b2 ht
        go_wp2_with fail
        go_ret2
        exact ⟨by rw [HR.out] <;> rfl, B3.out⟩
      | false =>
        go_enter Try.func29, Try.ntmps29
        go_wp2_with fail
        refine (hq.out _ (HAL.out _)).mono ?_
        rintro e w2 ⟨A2, c2, rfl, ht, b2⟩
        unfold outval
        go_upto_region 2 with fail
        change (fun V => Code.wp _ _ _ _ V) _
        refine gen_world (X := fun V => Blk V w2.heap.size 28 #[.int .i64 k, .int .i64 v, .slice A2 t.length c2, .int .i64 s] ∧ Below w2.heap.size w2 V) ⟨heap1_0 w2 _, (Below.refl _ _).alloc (Nat.le_refl _) _⟩ ?_
        rintro w3 ⟨h3, b3⟩
        have z0 := h3.cells 0
        have z3 := h3.cells 3
        have B3 := Lib.hid (((HAL.out (.cells #[.slice A n c] 33)).trans (b2.mono (HAL.out _).size)).trans (b3.mono ((HAL.out _).trans (b2.mono (HAL.out _).size)).size))
        clear h3 b3 b2 ht
        go_wp2_with fail
        go_ret2
        exact ⟨by rw [HR.out] <;> rfl, B3.out⟩
  by_cases hk : k = 4
  · exact key true (by rw [hr]; simp [hk]) (by simpa using hk)
  · exact key false (by rw [hr]; simp [hk]) (by simpa using hk)
end Go.Proofs.Yteagmmmniffibaa.FuelP
