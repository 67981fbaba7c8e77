/- impl.valueOf makes the error of Go that stands for one of valid Errors. -/
import Derived.Test.YtkjgibhckcdneaaEim
namespace Go.Proofs.Ytkjgibhckcdneaa.ErI
set_option linter.unusedVariables false
set_option linter.unusedSimpArgs false
open Go.ChangeShapes Go.WideShapes Go.ChangeAt Go.RowKit
open Mem IntsP ErP ErM ErT ErA ErU ErD ErW ErL ErF ErQ

/-- What one of them is in memory. -/
structure OneV (u : Nat → Value) (i : Nat) (s : En) (lo : Nat) (w' : World) (b : Nat) : Prop where
  low : lo ≤ b
  blk : ∃ cs ty, Blk w' b ty cs ∧ cs[0]? = some (.int .i64 i) ∧ cs[1]? = some (.int .i64 s.2.1)
  wrap : s.1 = 2 → ∃ p : Nat, s.2.2[0]? = some (p : Int) ∧ w'.cell? ⟨b, 2, none⟩ = some (u p)
  join : s.1 = 3 → ∃ (A : Addr) (c : Nat), lo ≤ A.block ∧ A.block < w'.heap.size ∧ w'.cell? ⟨b, 3, none⟩ = some (.slice (some A) (onceE s.2.2 s.2.2.length).length c) ∧ ∀ (j : Nat) (p : Nat), (onceE s.2.2 s.2.2.length)[j]? = some (p : Int) → w'.cell? (A.add j) = some (u p)
def OneR (u : Nat → Value) (i : Nat) (s : En) (w : World) (e : Ending) (w' : World) : Prop :=
  ∃ b, e = .returned (.iface (TyE s.1) (.pointer (some ⟨b, 0, none⟩))) ∧ OneV u i s w.heap.size w' b ∧ Below w.heap.size w w'
set_option maxRecDepth 100000 in
set_option maxHeartbeats 8000000 in
theorem vo_plain (u : Nat → Value) (i n gv : Nat) (d : Int) (Ai : Option Addr) (ci : Nat) (w : World) :
    Calls Try.prog 77 #[.agg #[.int .i64 1, .int .i64 d, .slice Ai 0 ci], .int .i64 i, .slice (some ⟨gv, 0, none⟩) n n] w (OneR u i (1, d, []) w) := by
  go_enter Try.func77, Try.ntmps77
  go_wp2_with fail
  go_ret
  refine ⟨w.heap.size + 1 + 1, rfl, ⟨by omega, ⟨_, _, heap3_2 w _ _ _, rfl, rfl⟩, fun h => absurd h (by show ¬ (1 : Int) = 2; decide), fun h => absurd h (by show ¬ (1 : Int) = 3; decide)⟩, ?_⟩
  exact (((Below.refl _ _).alloc (Nat.le_refl _) _).alloc (by simp) _).alloc (by simp; omega) _
set_option maxRecDepth 100000 in
set_option maxHeartbeats 8000000 in
theorem vo_like (u : Nat → Value) (i n gv : Nat) (d : Int) (Ai : Option Addr) (ci : Nat) (w : World) :
    Calls Try.prog 77 #[.agg #[.int .i64 4, .int .i64 d, .slice Ai 0 ci], .int .i64 i, .slice (some ⟨gv, 0, none⟩) n n] w (OneR u i (4, d, []) w) := by
  go_enter Try.func77, Try.ntmps77
  go_wp2_with fail
  go_ret
  refine ⟨w.heap.size + 1 + 1, rfl, ⟨by omega, ⟨_, _, heap3_2 w _ _ _, rfl, rfl⟩, fun h => absurd h (by show ¬ (4 : Int) = 2; decide), fun h => absurd h (by show ¬ (4 : Int) = 3; decide)⟩, ?_⟩
  exact (((Below.refl _ _).alloc (Nat.le_refl _) _).alloc (by simp) _).alloc (by simp; omega) _
set_option maxRecDepth 100000 in
set_option maxHeartbeats 8000000 in
theorem vo_wrap (u : Nat → Value) (hu : ∀ q, ∃ ty pv, u q = .iface ty pv) (i n gv q : Nat) (d : Int) (Ai : Option Addr) (ci : Nat) (w : World) (hr : RdI w w.heap.size Ai [(q : Int)]) (hq : q < n) (hn : n ≤ 12) (hg : gv < w.heap.size) (hv : w.cell? ⟨gv, q, none⟩ = some (u q)) :
    Calls Try.prog 77 #[.agg #[.int .i64 2, .int .i64 d, .slice Ai 1 ci], .int .i64 i, .slice (some ⟨gv, 0, none⟩) n n] w (OneR u i (2, d, [(q : Int)]) w) := by
  obtain ⟨ad, rfl, hab, d0⟩ := hr 0 (q : Int) rfl
  have d0' : w.cell? ad = some (.int .i64 (q : Int)) := by simpa [Addr.add] using d0
  clear hr d0
  obtain ⟨ty, pv, hvq⟩ := hu q
  have HVQ := Lib.hid hvq
  rw [hvq] at hv
  clear hvq
  have y0 : ∀ o o' : Obj, ((w.alloc o).alloc o').cell? ad = some (.int .i64 (q : Int)) := fun o o' => (World.cell?_alloc_lt _ o' ad (by simp; omega)).trans ((World.cell?_alloc_lt _ o ad hab).trans d0')
  have y1 : ∀ o o' : Obj, ((w.alloc o).alloc o').cell? ⟨gv, q, none⟩ = some (.iface ty pv) := fun o o' => (World.cell?_alloc_lt _ o' ⟨gv, q, none⟩ (by simp; omega)).trans ((World.cell?_alloc_lt _ o ⟨gv, q, none⟩ hg).trans hv)
  go_enter Try.func77, Try.ntmps77
  go_wp2_with fail
  obtain ⟨W, hW⟩ : ∃ W, (w.alloc (.cells #[.int .i64 2, .int .i64 d, .slice (some ad) 1 ci] 55)).alloc (.cells #[.int .i64 (i : Int), .int .i64 d] 91) = W := ⟨_, rfl⟩
  have x0 : Blk W w.heap.size 55 #[.int .i64 2, .int .i64 d, .slice (some ad) 1 ci] := by rw [← hW]; exact heap2_0 _ _ _
  have x1 : Blk W (w.heap.size + 1) 91 #[.int .i64 (i : Int), .int .i64 d] := by rw [← hW]; exact heap2_1 _ _ _
  have y0' : W.cell? ad = some (.int .i64 (q : Int)) := by rw [← hW]; exact y0 _ _
  have y1' : W.cell? ⟨gv, q, none⟩ = some (.iface ty pv) := by rw [← hW]; exact y1 _ _
  have bW : Below w.heap.size w W := by rw [← hW]; exact ((Below.refl _ _).alloc (Nat.le_refl _) _).alloc (by simp) _
  rw [hW]
  have BU := Lib.hid (bW.trans ((Below.refl _ _).drew))
  have S0 : (fun V : World => V.cell? ⟨w.heap.size + 1, 0, none⟩ = some (.int .i64 (i : Int)) ∧ V.cell? ⟨w.heap.size + 1, 1, none⟩ = some (.int .i64 d) ∧ V.cell? ⟨w.heap.size, 2, none⟩ = some (.slice (some ad) 1 ci) ∧ V.cell? ad = some (.int .i64 (q : Int)) ∧ V.cell? ⟨gv, q, none⟩ = some (.iface ty pv)) W.drew := ⟨x1.cells 0, x1.cells 1, x0.cells 2, y0', y1'⟩
  have lU : w.heap.size + 1 < W.drew.heap.size := x1.lt
  have hSB : ∀ V, Below W.drew.heap.size W.drew V → (fun V : World => V.cell? ⟨w.heap.size + 1, 0, none⟩ = some (.int .i64 (i : Int)) ∧ V.cell? ⟨w.heap.size + 1, 1, none⟩ = some (.int .i64 d) ∧ V.cell? ⟨w.heap.size, 2, none⟩ = some (.slice (some ad) 1 ci) ∧ V.cell? ad = some (.int .i64 (q : Int)) ∧ V.cell? ⟨gv, q, none⟩ = some (.iface ty pv)) V := fun V b => ⟨(b.cell (p := ⟨w.heap.size + 1, 0, none⟩) lU).trans (x1.cells 0), (b.cell (p := ⟨w.heap.size + 1, 1, none⟩) lU).trans (x1.cells 1), (b.cell (p := ⟨w.heap.size, 2, none⟩) (by show w.heap.size < W.drew.heap.size; omega)).trans (x0.cells 2), (b.cell (by omega)).trans y0', (b.cell (p := ⟨gv, q, none⟩) (by show gv < W.drew.heap.size; omega)).trans y1'⟩
  have HSB := Lib.hid hSB
  clear hW bW x0 x1 y0 y1 y0' y1' hSB
  refine Last2.region_last [11] (fun V : World => V.cell? ⟨w.heap.size + 1, 0, none⟩ = some (.int .i64 (i : Int)) ∧ V.cell? ⟨w.heap.size + 1, 1, none⟩ = some (.int .i64 d) ∧ V.cell? ⟨w.heap.size, 2, none⟩ = some (.slice (some ad) 1 ci) ∧ V.cell? ad = some (.int .i64 (q : Int)) ∧ V.cell? ⟨gv, q, none⟩ = some (.iface ty pv)) (by kernel_rfl) ?_
  refine Last2.last_take (i := 0) (d := some 19) (v := .agg #[.int .i64 (i : Int), .int .i64 d]) rfl rfl (by kernel_rfl) (by kernel_rfl) (by kernel_rfl) (fun _ _ _ h => h) rfl (by kernel_rfl) (by kernel_rfl) rfl ?_ S0 ?_
  · (intro V hV; (try dsimp only at hV); go_simp; try with_reducible rfl)
  simp only [Act.put, List.setIfInBounds_toArray, List.set_cons_zero, List.set_cons_succ]
  refine Last2.last_take (i := 1) (d := some 20) (v := .slice (some ⟨gv, 0, none⟩) n n) rfl rfl (by kernel_rfl) (by kernel_rfl) (by kernel_rfl) (fun _ _ _ h => h) rfl (by kernel_rfl) (by kernel_rfl) rfl ?_ S0 ?_
  · (intro V hV; (try dsimp only at hV); go_simp; try with_reducible rfl)
  simp only [Act.put, List.setIfInBounds_toArray, List.set_cons_zero, List.set_cons_succ]
  refine Last2.last_take (i := 2) (d := some 21) (v := .pointer (some ⟨w.heap.size, 2, none⟩)) rfl rfl (by kernel_rfl) (by kernel_rfl) (by kernel_rfl) (fun _ _ _ h => h) rfl (by kernel_rfl) (by kernel_rfl) rfl ?_ S0 ?_
  · (intro V hV; (try dsimp only at hV); go_simp; try with_reducible rfl)
  simp only [Act.put, List.setIfInBounds_toArray, List.set_cons_zero, List.set_cons_succ]
  refine Last2.last_take (i := 3) (d := some 22) (v := .slice (some ad) 1 ci) rfl rfl (by kernel_rfl) (by kernel_rfl) (by kernel_rfl) (fun _ _ _ h => h) rfl (by kernel_rfl) (by kernel_rfl) rfl ?_ S0 ?_
  · (intro V hV; (try dsimp only at hV); go_simp; try with_reducible rfl)
  simp only [Act.put, List.setIfInBounds_toArray, List.set_cons_zero, List.set_cons_succ]
  refine Last2.last_take (i := 4) (d := some 23) (v := .pointer (some ad)) rfl rfl (by kernel_rfl) (by kernel_rfl) (by kernel_rfl) (fun _ _ _ h => h) rfl (by kernel_rfl) (by kernel_rfl) rfl ?_ S0 ?_
  · (intro V hV; (try dsimp only at hV); go_simp; try with_reducible rfl)
  simp only [Act.put, List.setIfInBounds_toArray, List.set_cons_zero, List.set_cons_succ]
  refine Last2.last_take (i := 5) (d := some 24) (v := .int .i64 (q : Int)) rfl rfl (by kernel_rfl) (by kernel_rfl) (by kernel_rfl) (fun _ _ _ h => h) rfl (by kernel_rfl) (by kernel_rfl) rfl ?_ S0 ?_
  · (intro V hV; (try dsimp only at hV); go_simp; try with_reducible rfl)
  simp only [Act.put, List.setIfInBounds_toArray, List.set_cons_zero, List.set_cons_succ]
  refine Last2.last_take (i := 6) (d := some 25) (v := .pointer (some ⟨gv, q, none⟩)) rfl rfl (by kernel_rfl) (by kernel_rfl) (by kernel_rfl) (fun _ _ _ h => h) rfl (by kernel_rfl) (by kernel_rfl) rfl ?_ S0 ?_
  · (intro V hV; (try dsimp only at hV); go_simp; try with_reducible rfl)
  simp only [Act.put, List.setIfInBounds_toArray, List.set_cons_zero, List.set_cons_succ]
  refine Last2.last_take (i := 7) (d := some 26) (v := (.iface ty pv)) rfl rfl (by kernel_rfl) (by kernel_rfl) (by kernel_rfl) (fun _ _ _ h => h) rfl (by kernel_rfl) (by kernel_rfl) rfl ?_ S0 ?_
  · (intro V hV; (try dsimp only at hV); go_simp; try with_reducible rfl)
  simp only [Act.put, List.setIfInBounds_toArray, List.set_cons_zero, List.set_cons_succ]
  refine Last2.last_take (i := 8) (d := some 27) (v := .agg #[.int .i64 (i : Int), .int .i64 d, (.iface ty pv)]) rfl rfl (by kernel_rfl) (by kernel_rfl) (by kernel_rfl) (fun _ _ _ h => h) rfl (by kernel_rfl) (by kernel_rfl) rfl ?_ S0 ?_
  · (intro V hV; (try dsimp only at hV); go_simp; try with_reducible rfl)
  simp only [Act.put, List.setIfInBounds_toArray, List.set_cons_zero, List.set_cons_succ]
  clear S0
  generalize W.drew = U at *
  refine Last2.last_one (i := 9) (o := { dst := some 28, op := .box 94 (.tmp 27), type := _, pos := _, after := _, guard := none }) (by kernel_rfl) rfl rfl (fun K hK => ?_)
  go_simp
  have b5 : Below U.heap.size U (U.alloc (.cells #[.int .i64 (i : Int), .int .i64 d, (.iface ty pv)] 94)) := (Below.refl _ _).alloc (Nat.le_refl _) _
  have S5 := HSB.out _ b5
  refine hK.out _ _ (fun _ => S5) ?_
  clear hK K
  try simp only [Act.put, List.setIfInBounds_toArray, List.set_cons_zero, List.set_cons_succ]
  refine Last2.last_take (i := 10) (d := some 29) (v := .iface 92 (.pointer (some ⟨U.heap.size, 0, none⟩))) rfl rfl (by kernel_rfl) (by kernel_rfl) (by kernel_rfl) (fun _ _ _ h => h) rfl (by kernel_rfl) (by kernel_rfl) rfl ?_ S5 ?_
  · (intro V hV; (try dsimp only at hV); go_simp; try with_reducible rfl)
  simp only [Act.put, List.setIfInBounds_toArray, List.set_cons_zero, List.set_cons_succ]
  refine Last2.last_one (i := 11) (o := { dst := some 6, op := .assign (.tmp 29), type := _, pos := _, after := _, guard := none }) (by kernel_rfl) rfl rfl (fun K hK => ?_)
  go_simp
  refine hK.out _ _ (fun h => (h (by decide)).elim) ?_
  clear hK K
  try simp only [Act.put, List.setIfInBounds_toArray, List.set_cons_zero, List.set_cons_succ]
  refine Last2.last_done (by kernel_rfl) ?_ _
  have B5 := Lib.hid (BU.out.trans (b5.mono BU.out.size))
  have X5 := Lib.hid (show Blk (U.alloc (.cells #[.int .i64 (i : Int), .int .i64 d, (.iface ty pv)] 94)) U.heap.size 94 #[.int .i64 (i : Int), .int .i64 d, (.iface ty pv)] from heap1_0 _ _)
  clear S5 b5
  go_wp2_with fail
  go_ret
  refine ⟨U.heap.size, rfl, ⟨by omega, ⟨_, _, X5.out, rfl, rfl⟩, fun _ => ⟨q, rfl, by rw [HVQ.out]; exact X5.out.cells 2⟩, fun h => absurd h (by show ¬ (2 : Int) = 3; decide)⟩, B5.out⟩
end Go.Proofs.Ytkjgibhckcdneaa.ErI
