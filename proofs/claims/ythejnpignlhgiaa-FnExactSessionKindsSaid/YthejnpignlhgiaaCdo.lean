import Derived.Test.YthejnpignlhgiaaFrp
import Derived.Test.YthejnpignlhgiaaIrp
import Derived.Test.YthejnpignlhgiaaM2
set_option linter.all false
namespace Go.Proofs.Ythejnpignlhgiaa.Cdo
open Lib (hid)
open Go.ChangeShapes Go.WideShapes Go.ChangeAt Go.RowKit
open PL Mem Srun Sst To OwnS AskP Res Swhole Sout StS Irp LawN Frp
theorem run_good (p : Pg) (f arg fuel : Int) (h : (runR p f arg fuel).2 = true) : (1 ≤ (runR p f arg fuel).1.kind ∧ (runR p f arg fuel).1.kind ≤ 4) ∧ N16 (runR p f arg fuel).1.value := by
 unfold runR at *
 split at h
 ·rename_i ha
  rw [if_pos ha]
  have hw := frm_wf (s := 0) ha N16_0
  exact ⟨frm_kind (s := 0) ha, told_value hw.1 hw.2⟩
 ·cases h
theorem tmod_rng (v : Int) : -255 ≤ v.tmod 256 ∧ v.tmod 256 ≤ 255 := by
 have e := @Int.tmod_eq_emod v 256
 split at e
 ·omega
 ·rename_i h
  have h2 : ((Int.natAbs 256 : Nat) : Int) = 256 := rfl
  have h3 : ¬ (256 : Int) ∣ v := fun hd => h (.inr hd)
  rw [h2] at e
  omega
theorem tmod_eq (v : Int) : (v.tmod 256 + 256).tmod 256 = v % 256 := by
 have e := @Int.tmod_eq_emod v 256
 have r := tmod_rng v
 rw [Int.tmod_eq_emod_of_nonneg (by omega)]
 split at e
 ·omega
 ·have h2 : ((Int.natAbs 256 : Nat) : Int) = 256 := rfl
  rw [h2] at e
  omega
theorem emod_rng (v : Int) : 0 ≤ v % 256 ∧ v % 256 ≤ 255 := by omega
set_option maxRecDepth 100000 in
theorem l10Code_any (A : Option Addr) (N c : Nat) (t : List Tr) (k v s : Int) (hk : 1 ≤ k ∧ k ≤ 4) (hv : N16 v) (w : World) :
  Calls Try.prog 70 #[.agg #[.int .i64 k, .int .i64 v, .slice A N c, .int .i64 s]] w fun e w' => e = .returned (.int .i64 (codeO { kind := k, value := v, trace := t, spent := s })) ∧ Below w.heap.size w w' := by
 obtain ⟨v1, v2⟩ := hv
 have h4 : k = 1 ∨ k = 2 ∨ k = 3 ∨ k = 4 := by omega
 clear hk
 rcases h4 with rfl | rfl | rfl | rfl
 ·have hs := hid (show codeO { kind := 1, value := v, trace := t, spent := s } = v % 256 from rfl)
  go_enter Try.func70, Try.ntmps70
  go_upto_region 1 with fail
  change (fun V => Code.wp _ _ _ _ V) _
  refine gen_world (X := fun V => V.cell? ⟨w.heap.size, 0, none⟩ = some (.int .i64 1) ∧ V.cell? ⟨w.heap.size, 1, none⟩ = some (.int .i64 v) ∧ Below w.heap.size w V) ⟨(Blk.cells (heap1_0 w (.cells #[.int .i64 1, .int .i64 v, .slice A N c, .int .i64 s] 56)) 0), (Blk.cells (heap1_0 w (.cells #[.int .i64 1, .int .i64 v, .slice A N c, .int .i64 s] 56)) 1), (Below.refl _ _).alloc (Nat.le_refl _) _⟩ ?_
  rintro w1 ⟨z0, z1, b1⟩
  have q1 := tmod_rng v
  have q2 := tmod_eq v
  go_wp2_with fail
  go_ret
  exact ⟨by rw [hs.out]; rfl, b1⟩
 ·have hs := hid (show codeO { kind := 2, value := v, trace := t, spent := s } = 2 from rfl)
  go_enter Try.func70, Try.ntmps70
  go_upto_region 1 with fail
  change (fun V => Code.wp _ _ _ _ V) _
  refine gen_world (X := fun V => V.cell? ⟨w.heap.size, 0, none⟩ = some (.int .i64 2) ∧ V.cell? ⟨w.heap.size, 1, none⟩ = some (.int .i64 v) ∧ Below w.heap.size w V) ⟨(Blk.cells (heap1_0 w (.cells #[.int .i64 2, .int .i64 v, .slice A N c, .int .i64 s] 56)) 0), (Blk.cells (heap1_0 w (.cells #[.int .i64 2, .int .i64 v, .slice A N c, .int .i64 s] 56)) 1), (Below.refl _ _).alloc (Nat.le_refl _) _⟩ ?_
  rintro w1 ⟨z0, z1, b1⟩
  go_wp2_with fail
  go_ret
  exact ⟨by rw [hs.out]; rfl, b1⟩
 ·have hs := hid (show codeO { kind := 3, value := v, trace := t, spent := s } = 0 from rfl)
  go_enter Try.func70, Try.ntmps70
  go_upto_region 1 with fail
  change (fun V => Code.wp _ _ _ _ V) _
  refine gen_world (X := fun V => V.cell? ⟨w.heap.size, 0, none⟩ = some (.int .i64 3) ∧ V.cell? ⟨w.heap.size, 1, none⟩ = some (.int .i64 v) ∧ Below w.heap.size w V) ⟨(Blk.cells (heap1_0 w (.cells #[.int .i64 3, .int .i64 v, .slice A N c, .int .i64 s] 56)) 0), (Blk.cells (heap1_0 w (.cells #[.int .i64 3, .int .i64 v, .slice A N c, .int .i64 s] 56)) 1), (Below.refl _ _).alloc (Nat.le_refl _) _⟩ ?_
  rintro w1 ⟨z0, z1, b1⟩
  go_wp2_with fail
  go_ret
  exact ⟨by rw [hs.out]; rfl, b1⟩
 ·have hs := hid (show codeO { kind := 4, value := v, trace := t, spent := s } = 124 from rfl)
  go_enter Try.func70, Try.ntmps70
  go_upto_region 1 with fail
  change (fun V => Code.wp _ _ _ _ V) _
  refine gen_world (X := fun V => V.cell? ⟨w.heap.size, 0, none⟩ = some (.int .i64 4) ∧ V.cell? ⟨w.heap.size, 1, none⟩ = some (.int .i64 v) ∧ Below w.heap.size w V) ⟨(Blk.cells (heap1_0 w (.cells #[.int .i64 4, .int .i64 v, .slice A N c, .int .i64 s] 56)) 0), (Blk.cells (heap1_0 w (.cells #[.int .i64 4, .int .i64 v, .slice A N c, .int .i64 s] 56)) 1), (Below.refl _ _).alloc (Nat.le_refl _) _⟩ ?_
  rintro w1 ⟨z0, z1, b1⟩
  go_wp2_with fail
  go_ret
  exact ⟨by rw [hs.out]; rfl, b1⟩
set_option maxRecDepth 100000 in
theorem codeOf_any (A : Option Addr) (N c : Nat) (t : List Tr) (k v s : Int) (hk : 1 ≤ k ∧ k ≤ 4) (hv : N16 v) (w : World) :
  Calls Try.prog 73 #[.agg #[.int .i64 k, .int .i64 v, .slice A N c, .int .i64 s]] w fun e w' => e = .returned (.int .i64 (codeO { kind := k, value := v, trace := t, spent := s })) ∧ Below w.heap.size w w' := by
 obtain ⟨v1, v2⟩ := hv
 have h4 : k = 1 ∨ k = 2 ∨ k = 3 ∨ k = 4 := by omega
 clear hk
 rcases h4 with rfl | rfl | rfl | rfl
 ·have hs := hid (show codeO { kind := 1, value := v, trace := t, spent := s } = v % 256 from rfl)
  go_enter Try.func73, Try.ntmps73
  go_upto_region 1 with fail
  change (fun V => Code.wp _ _ _ _ V) _
  refine gen_world (X := fun V => V.cell? ⟨w.heap.size, 0, none⟩ = some (.int .i64 1) ∧ V.cell? ⟨w.heap.size, 1, none⟩ = some (.int .i64 v) ∧ Below w.heap.size w V) ⟨(Blk.cells (heap1_0 w (.cells #[.int .i64 1, .int .i64 v, .slice A N c, .int .i64 s] 56)) 0), (Blk.cells (heap1_0 w (.cells #[.int .i64 1, .int .i64 v, .slice A N c, .int .i64 s] 56)) 1), (Below.refl _ _).alloc (Nat.le_refl _) _⟩ ?_
  rintro w1 ⟨z0, z1, b1⟩
  have q1 := emod_rng v
  go_wp2_with fail
  go_ret
  exact ⟨by rw [hs.out]; rfl, b1⟩
 ·have hs := hid (show codeO { kind := 2, value := v, trace := t, spent := s } = 2 from rfl)
  go_enter Try.func73, Try.ntmps73
  go_upto_region 1 with fail
  change (fun V => Code.wp _ _ _ _ V) _
  refine gen_world (X := fun V => V.cell? ⟨w.heap.size, 0, none⟩ = some (.int .i64 2) ∧ V.cell? ⟨w.heap.size, 1, none⟩ = some (.int .i64 v) ∧ Below w.heap.size w V) ⟨(Blk.cells (heap1_0 w (.cells #[.int .i64 2, .int .i64 v, .slice A N c, .int .i64 s] 56)) 0), (Blk.cells (heap1_0 w (.cells #[.int .i64 2, .int .i64 v, .slice A N c, .int .i64 s] 56)) 1), (Below.refl _ _).alloc (Nat.le_refl _) _⟩ ?_
  rintro w1 ⟨z0, z1, b1⟩
  go_wp2_with fail
  go_ret
  exact ⟨by rw [hs.out]; rfl, b1⟩
 ·have hs := hid (show codeO { kind := 3, value := v, trace := t, spent := s } = 0 from rfl)
  go_enter Try.func73, Try.ntmps73
  go_upto_region 1 with fail
  change (fun V => Code.wp _ _ _ _ V) _
  refine gen_world (X := fun V => V.cell? ⟨w.heap.size, 0, none⟩ = some (.int .i64 3) ∧ V.cell? ⟨w.heap.size, 1, none⟩ = some (.int .i64 v) ∧ Below w.heap.size w V) ⟨(Blk.cells (heap1_0 w (.cells #[.int .i64 3, .int .i64 v, .slice A N c, .int .i64 s] 56)) 0), (Blk.cells (heap1_0 w (.cells #[.int .i64 3, .int .i64 v, .slice A N c, .int .i64 s] 56)) 1), (Below.refl _ _).alloc (Nat.le_refl _) _⟩ ?_
  rintro w1 ⟨z0, z1, b1⟩
  go_wp2_with fail
  go_ret
  exact ⟨by rw [hs.out]; rfl, b1⟩
 ·have hs := hid (show codeO { kind := 4, value := v, trace := t, spent := s } = 124 from rfl)
  go_enter Try.func73, Try.ntmps73
  go_upto_region 1 with fail
  change (fun V => Code.wp _ _ _ _ V) _
  refine gen_world (X := fun V => V.cell? ⟨w.heap.size, 0, none⟩ = some (.int .i64 4) ∧ V.cell? ⟨w.heap.size, 1, none⟩ = some (.int .i64 v) ∧ Below w.heap.size w V) ⟨(Blk.cells (heap1_0 w (.cells #[.int .i64 4, .int .i64 v, .slice A N c, .int .i64 s] 56)) 0), (Blk.cells (heap1_0 w (.cells #[.int .i64 4, .int .i64 v, .slice A N c, .int .i64 s] 56)) 1), (Below.refl _ _).alloc (Nat.le_refl _) _⟩ ?_
  rintro w1 ⟨z0, z1, b1⟩
  go_wp2_with fail
  go_ret
  exact ⟨by rw [hs.out]; rfl, b1⟩
set_option maxRecDepth 100000 in
set_option maxHeartbeats 1000000 in
theorem codeS_any (lo n c : Nat) (A : Option Addr) (p : Pg) (f arg fuel : Int) (hn : n ≤ 9223372036854775807) (hl : p.length = n) (hsm : Small p 9223372036854775807) (w : World) (ho : OwnP w lo (.slice A n c) p) :
  Calls Try.prog 23 #[.agg #[.slice A n c], .int .i64 f, .int .i64 arg, .int .i64 fuel] w (NumR (codeR p f arg fuel) w) := by
 have hq := hid (fun W (h : Below w.heap.size w W) => l2Ask_any w.heap.size A n c p f arg fuel hn hl hsm W (ho.rd.below h) h.size)
 have HAL := hid (fun o : Obj => (show Below w.heap.size w (w.alloc o) from (Below.refl _ _).alloc (Nat.le_refl _) _))
 have hgood := run_good p f arg fuel
 cases ha : asks p f arg fuel with
 | false =>
  have hr := hid (show codeR p f arg fuel = (0, false) by unfold codeR runR; rw [ha]; rfl)
  rw [ha] at hq
  clear ha ho hsm hgood
  go_enter Try.func23, Try.ntmps23
  go_wp2_with fail
  refine (hq.out _ (HAL.out _)).mono ?_
  rintro e w1 ⟨rfl, b1⟩
  go_wp2_with fail
  go_ret2
  exact ⟨by rw [hr.out] <;> rfl, (HAL.out _).trans (b1.mono (HAL.out _).size)⟩
 | true =>
  obtain ⟨h1, h2, h3, h4, h5, h6⟩ := start_wf (n := n) ha
  have hn6 : p.length ≤ 6 ∧ Small p 8 := okProg_small h1
  have hru := hid (fun W (h : Below w.heap.size w W) => l2Run_any lo n c A p f arg fuel hl (hn6.2.mono (by omega)) (by omega) ha W (ho.below h))
  have hrr : runR p f arg fuel = (run p fuel f arg, true) := by unfold runR; rw [ha]; rfl
  have hr : codeR p f arg fuel = (codeO (run p fuel f arg), true) := by unfold codeR; rw [hrr]; rfl
  rw [hrr] at hgood
  obtain ⟨g1, g2⟩ := hgood rfl
  rw [ha] at hq
  clear ha ho hsm h1 h2 h3 h4 h5 h6 hn6 hrr hgood
  generalize run p fuel f arg = r at *
  obtain ⟨k, v, t, s⟩ := r
  dsimp only at hr g1 g2
  have HR := hid hr
  obtain ⟨N, hN⟩ : ∃ N, t.length = N := ⟨_, rfl⟩
  have HC := hid (fun A2 c2 W => l10Code_any A2 N c2 t k v s g1 g2 W)
  have HN := hid hN
  clear hr g1 g2 hN
  go_enter Try.func23, Try.ntmps23
  go_wp2_with fail
  refine (hq.out _ (HAL.out _)).mono ?_
  rintro e w1 ⟨rfl, b1⟩
  have a1' : w1.cell? ⟨w.heap.size, 0, none⟩ = some (.slice A n c) := (Blk.below (heap1_0 w (.cells #[.slice A n c] 35)) b1 (by simp)).cells 0
  have bb := hid ((HAL.out (.cells #[.slice A n c] 35)).trans (b1.mono (HAL.out _).size))
  clear b1 hq
  go_wp2_with fail
  refine (hru.out _ bb.out).mono ?_
  rintro e w2 ⟨A2, c2, rfl, ht, b2⟩
  have B2 := hid (bb.out.trans (b2.mono bb.out.size))
  unfold outval
  dsimp only
  rw [HN.out]
  clear a1' hru b2 bb ht
  go_wp2_with fail
  refine (HC.out _ _ _).mono ?_
  rintro e w4 ⟨rfl, b4⟩
  go_wp2_with fail
  go_ret2
  exact ⟨by rw [HR.out] <;> rfl, B2.out.trans (b4.mono B2.out.size)⟩
set_option maxRecDepth 100000 in
set_option maxHeartbeats 1000000 in
theorem codeI_any (lo n c : Nat) (A : Option Addr) (p : Pg) (f arg fuel : Int) (hn : n ≤ 9223372036854775807) (hl : p.length = n) (hsm : Small p 9223372036854775807) (w : World) (ho : OwnP w lo (.slice A n c) p) :
  Calls Try.prog 24 #[.agg #[.slice A n c], .int .i64 f, .int .i64 arg, .int .i64 fuel] w (NumR (codeR p f arg fuel) w) := by
 have hq := hid (fun W (h : Below w.heap.size w W) => runI_any lo n c A p f arg fuel hn hl hsm W (ho.below h))
 have HAL := hid (fun o : Obj => (show Below w.heap.size w (w.alloc o) from (Below.refl _ _).alloc (Nat.le_refl _) _))
 have hgood := run_good p f arg fuel
 have hr : codeR p f arg fuel = if (runR p f arg fuel).2 = true then (codeO (runR p f arg fuel).1, true) else (0, false) := rfl
 generalize runR p f arg fuel = r at *
 obtain ⟨⟨k, v, t, s⟩, b⟩ := r
 dsimp only at hr hgood
 obtain ⟨N, hN⟩ : ∃ N, t.length = N := ⟨_, rfl⟩
 unfold OutR at hq
 dsimp only at hq
 rw [hN] at hq
 have HR := hid hr
 clear ho hsm hN hr
 cases b with
 | false =>
  clear hgood
  go_enter Try.func24, Try.ntmps24
  go_wp2_with fail
  refine (hq.out _ (HAL.out _)).mono ?_
  rintro e w2 ⟨A2, c2, rfl, ht, b2⟩
  have BB := hid ((HAL.out (.cells #[.slice A n c] 35)).trans (b2.mono (HAL.out _).size))
  unfold outval
  clear ht b2 hq
  go_wp2_with fail
  go_ret2
  exact ⟨by rw [HR.out] <;> rfl, BB.out.alloc BB.out.size _⟩
 | true =>
  obtain ⟨g1, g2⟩ := hgood rfl
  have HC := hid (fun A2 c2 W => codeOf_any A2 N c2 t k v s g1 g2 W)
  clear g1 g2 hgood
  go_enter Try.func24, Try.ntmps24
  go_wp2_with fail
  refine (hq.out _ (HAL.out _)).mono ?_
  rintro e w2 ⟨A2, c2, rfl, ht, b2⟩
  have BB := hid ((HAL.out (.cells #[.slice A n c] 35)).trans (b2.mono (HAL.out _).size))
  unfold outval
  dsimp only
  clear ht b2 hq
  go_upto_region 2 with fail
  change (fun V => Code.wp _ _ _ _ V) _
  refine gen_world (X := fun V => Blk V w2.heap.size 56 #[.int .i64 k, .int .i64 v, .slice A2 N c2, .int .i64 s] ∧ Below w.heap.size w V) ⟨heap1_0 w2 _, BB.out.alloc BB.out.size _⟩ ?_
  rintro w3 ⟨h3, b3⟩
  have z0 : w3.cell? ⟨w2.heap.size, 0, none⟩ = some (.int .i64 k) := h3.cells 0
  have z1 : w3.cell? ⟨w2.heap.size, 1, none⟩ = some (.int .i64 v) := h3.cells 1
  have z2 : w3.cell? ⟨w2.heap.size, 2, none⟩ = some (.slice A2 N c2) := h3.cells 2
  have z3 : w3.cell? ⟨w2.heap.size, 3, none⟩ = some (.int .i64 s) := h3.cells 3
  have B3 := hid b3
  clear h3 b3 BB
  go_wp2_with fail
  refine (HC.out _ _ _).mono ?_
  rintro e w4 ⟨rfl, b4⟩
  go_wp2_with fail
  go_ret2
  exact ⟨by rw [HR.out] <;> rfl, B3.out.trans (b4.mono B3.out.size)⟩
end Go.Proofs.Ythejnpignlhgiaa.Cdo
-- squeezed
