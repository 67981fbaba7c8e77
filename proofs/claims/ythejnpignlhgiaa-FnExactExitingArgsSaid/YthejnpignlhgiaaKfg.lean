import Derived.Test.YthejnpignlhgiaaKpp
import Derived.Test.YthejnpignlhgiaaRng
import Derived.Test.YthejnpignlhgiaaIrp
import Derived.Test.YthejnpignlhgiaaM2
set_option linter.all false
namespace Go.Proofs.Ythejnpignlhgiaa.Kfg
open Lib (hid)
open Go.ChangeShapes Go.WideShapes Go.ChangeAt Go.RowKit
open PL Mem Srun Sst To OwnS AskP StpS Res Swhole Sout Irp RunF IntsP LawI LawN PArgP Rng Kpp
def runV (g : Nat) : Value := .func (.func 109) #[] #[.pointer (some ⟨g, 0, none⟩), .pointer (some ⟨g + 1, 0, none⟩), .pointer (some ⟨g + 2, 0, none⟩)]
structure RunB (W : World) (g : Nat) (A : Option Addr) (n c : Nat) (f fuel : Int) : Prop where
 p : Blk W g 35 #[.slice A n c]
 f : Blk W (g + 1) 3 #[.int .i64 f]
 u : Blk W (g + 2) 3 #[.int .i64 fuel]
theorem RunB.lt {W : World} {g n c : Nat} {A : Option Addr} {f fuel : Int} (h : RunB W g A n c f fuel) : g + 2 < W.heap.size := h.u.lt
theorem RunB.below {W W' : World} {g n c B : Nat} {A : Option Addr} {f fuel : Int} (h : RunB W g A n c f fuel) (b : Below B W W') (hB : g + 2 < B) : RunB W' g A n c f fuel :=
 ⟨h.p.below b (by omega), h.f.below b (by omega), h.u.below b hB⟩
theorem runOf_any (A : Option Addr) (n c : Nat) (f fuel : Int) (w : World) :
  Calls Try.prog 77 #[.agg #[.slice A n c], .int .i64 f, .int .i64 fuel] w fun e w' => e = .returned (runV w.heap.size) ∧ RunB w' w.heap.size A n c f fuel ∧ Below w.heap.size w w' := by
 have HB := hid (show RunB (((w.alloc (.cells #[.slice A n c] 35)).alloc (.cells #[.int .i64 f] 3)).alloc (.cells #[.int .i64 fuel] 3)) w.heap.size A n c f fuel from ⟨heap3_0 _ _ _ _, heap3_1 _ _ _ _, heap3_2 _ _ _ _⟩)
 have HL := hid (show Below w.heap.size w (((w.alloc (.cells #[.slice A n c] 35)).alloc (.cells #[.int .i64 f] 3)).alloc (.cells #[.int .i64 fuel] 3)) from ((((Below.refl _ _).alloc (Nat.le_refl _) _).alloc (by simp) _).alloc (by simp <;> omega) _))
 go_enter Try.func77, Try.ntmps77
 go_wp2_with fail
 go_ret
 exact ⟨rfl, HB.out, HL.out⟩
set_option maxRecDepth 100000 in
set_option maxHeartbeats 4000000 in
theorem runOf1_any (lo n c g : Nat) (A : Option Addr) (p : Pg) (f arg fuel : Int) (hn : n ≤ 9223372036854775807) (hl : p.length = n) (hsm : Small p 9223372036854775807) (ha : asks p f arg fuel = true) (w : World) (ho : OwnP w lo (.slice A n c) p) (hb : RunB w g A n c f fuel) :
  Calls Try.prog 109 #[.int .i64 arg, .pointer (some ⟨g, 0, none⟩), .pointer (some ⟨g + 1, 0, none⟩), .pointer (some ⟨g + 2, 0, none⟩)] w (RunR (run p fuel f arg) w) := by
 have hru := hid (fun W (h : Below w.heap.size w W) => runI_any lo n c A p f arg fuel hn hl hsm W (ho.below h))
 have hr := hid (runR_yes ha)
 have HB := hid hb
 have hlt := hb.lt
 generalize run p fuel f arg = r at *
 clear ho ha hsm hb
 go_enter Try.func109, Try.ntmps109
 go_upto_region 1 with fail
 change (fun V => Code.wp _ _ _ _ V) _
 refine gen_world (X := fun V => Blk V w.heap.size 56 #[.int .i64 0, .int .i64 0, .slice none 0 0, .int .i64 0] ∧ Below w.heap.size w V) ⟨heap1_0 w _, (Below.refl _ _).alloc (Nat.le_refl _) _⟩ ?_
 rintro w1 ⟨x1, b1⟩
 have RB := HB.out.below b1 hlt
 have z0 : w1.cell? ⟨g, 0, none⟩ = some (.slice A n c) := RB.p.cells 0
 have z1 : w1.cell? ⟨g + 1, 0, none⟩ = some (.int .i64 f) := RB.f.cells 0
 have z2 : w1.cell? ⟨g + 2, 0, none⟩ = some (.int .i64 fuel) := RB.u.cells 0
 have X1 := hid x1
 have B1 := hid b1
 clear x1 b1 RB
 go_wp2_with fail
 refine (hru.out _ B1.out).mono ?_
 rintro e w2 ⟨A2, c2, rfl, ht, b2⟩
 rw [hr.out] at ht ⊢
 unfold outval
 have X2 := hid (X1.out.below b2 X1.out.lt)
 have HT := hid (own_mono ht (B1.out.size))
 have B2 := hid (B1.out.trans (b2.mono B1.out.size))
 clear ht b2 z0 z1 z2 hru
 dsimp only
 go_upto_region 2 with fail
 change (fun V => Code.wp _ _ _ _ V) _
 refine gen_world (X := fun V => Blk V w2.heap.size 56 #[.int .i64 r.kind, .int .i64 r.value, .slice A2 r.trace.length c2, .int .i64 r.spent] ∧ Blk V w.heap.size 56 #[.int .i64 0, .int .i64 0, .slice none 0 0, .int .i64 0] ∧ Tre V w.heap.size (.slice A2 r.trace.length c2) r.trace ∧ Below w.heap.size w V)
  ⟨heap1_0 w2 _, X2.out.alloc _, World.ownsRow.alloc HT.out _, B2.out.alloc B2.out.size _⟩ ?_
 clear X1 X2 HT B1 B2 HB
 rintro V ⟨v1, v2, v3, v4⟩
 have z1 := v1.cells
 have z2 := v2.cells
 have f2 := v2.frozen
 have V2 := hid v2
 have V3 := hid v3
 have V4 := hid v4
 clear v1 v2 v3 v4
 go_wp2_with fail
 refine gen_post (X := fun V => Blk V w.heap.size 56 #[.int .i64 r.kind, .int .i64 r.value, .slice A2 r.trace.length c2, .int .i64 r.spent] ∧ Tre V w.heap.size (.slice A2 r.trace.length c2) r.trace ∧ Below w.heap.size w V) ?_ ?_
 ·have n2 := blk_apart V3.out V2.out (by decide)
  refine ⟨Blk.set4 V2.out _ _ _ _, ?_, ?_⟩
  ·iterate 4 refine own_far ?_ _ _ n2
   exact V3.out
  ·iterate 4 refine Below.setCell ?_ (by exact Nat.le_refl _) _
   exact V4.out
 clear z1 z2 f2 V2 V3 V4
 rintro V ⟨v1, v2⟩
 have V1 := v1.cells
 have HV := hid v2
 clear v1 v2
 exact bodyPost_ret (v := .agg #[.int .i64 r.kind, .int .i64 r.value, .slice A2 r.trace.length c2, .int .i64 r.spent]) (by simp [results, Try.results109, go_sem, V1]) rfl ⟨A2, c2, rfl, HV.out.1, HV.out.2⟩
end Go.Proofs.Ythejnpignlhgiaa.Kfg
-- squeezed
