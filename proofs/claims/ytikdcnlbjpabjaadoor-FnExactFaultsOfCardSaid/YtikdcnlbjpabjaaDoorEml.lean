/- The ledger in memory: newLedger, enter: a map of the call's own that tells the open resources. -/
import Derived.Test.YtikdcnlbjpabjaaDoorEnb
import Derived.Maps.OwnOps
import Derived.WalkKit
namespace Go.Proofs.YtikdcnlbjpabjaaDoor.EntL
set_option linter.unusedVariables false
set_option linter.unusedSimpArgs false
open Go.ChangeShapes Go.WideShapes Go.ChangeAt Go.RowKit Go.Maps
open Mem IntsP LiP EntP GrwP EntS

theorem lawI : Keyed Tryd.prog 3 := int_keyed Tryd.underlying3
theorem zeroI (w : World) : (zeroValue 3).run Tryd.prog w = .ok (.int .i64 0) w := by kernel_rfl
theorem wfI {x : Int} (h : -32767 ≤ x ∧ x ≤ 32767) : (Lit.int .i64 x).wf = true := WalkArith.wf_i64 (by omega)
theorem keyOfI {x : Int} (h : -32767 ≤ x ∧ x ≤ 32767) : keyOf Tryd.prog 3 (.int .i64 x) = some (keyI x) := keyOf_int_mk Tryd.underlying3 (wfI h)
theorem isKeyI (x : Int) : WideAt.IsKeyLit (keyI x) := trivial
/-- A map in block b that tells the open resources o, with at most n entries. -/
def Led (w : World) (b : Nat) (o : List Int) (i : Nat) : Prop :=
  ∃ D n, w.ownsMap Tryd.prog 3 (plainElem Tryd.prog 3) b n D ∧ n ≤ i ∧ MapO D o i
theorem Led.lt {w : World} {b : Nat} {o : List Int} {i : Nat} (h : Led w b o i) : b < w.heap.size := by obtain ⟨D, n, h, _⟩ := h; exact h.lt
theorem Led.mono {w : World} {b : Nat} {o : List Int} {i j : Nat} (h : Led w b o i) (hij : i ≤ j) : Led w b o j := by
  obtain ⟨D, n, h1, h2, h3⟩ := h
  exact ⟨D, n, h1, by omega, h3.mono hij⟩
theorem Led.chg {C : Nat → Prop} {w w' : World} {b : Nat} {o : List Int} {i : Nat} (h : Led w b o i) (hc : Chg C w w') (hb : ¬ C b) : Led w' b o i := by
  obtain ⟨D, n, h1, h2⟩ := h
  refine ⟨D, n, ?_, h2⟩
  obtain ⟨es, clock, hb', r⟩ := h1
  exact ⟨es, clock, by rw [hc.block b ((Array.getElem?_eq_some_iff.1 hb').1) hb]; exact hb', r⟩
theorem Led.below {w w' : World} {b : Nat} {o : List Int} {i : Nat} (h : Led w b o i) (hb : Below w.heap.size w w') : Led w' b o i := h.chg (C := fun _ => False) (Chg.of_below hb) (fun h => h)
theorem rdI_chg {C : Nat → Prop} {w w' : World} {B : Nat} {A : Option Addr} {xs : List Int} (h : RdI w B A xs) (hc : Chg C w w') (hB : B ≤ w.heap.size) (hC : ∀ b, b < B → ¬ C b) : RdI w' B A xs :=
  h.keep fun p hp => hc.cell (by omega) (hC _ hp)
def NewR (w : World) (e : Ending) (w' : World) : Prop :=
  ∃ b, e = .returned (.agg #[.map (some b)]) ∧ w.heap.size ≤ b ∧ Led w' b [] 0 ∧ Below w.heap.size w w'
set_option maxRecDepth 100000 in
theorem new_any (w : World) : Calls Tryd.prog 37 #[] w (NewR w) := by
  have hmm := @run_makeMap Tryd.prog
  go_enter Tryd.func37, Tryd.ntmps37
  go_wp2_with fail
  refine bodyPost_ret (v := .agg #[.map (some (w.heap.size + 1))]) (by simp [results, Tryd.results37, go_sem]) rfl ⟨_, rfl, Nat.le_succ _, ⟨.map [], 0, ?_, Nat.le_refl _, MapO.empty 0⟩, ((Below.refl _ _).alloc (Nat.le_refl _) _).alloc (by simp) _⟩
  have := World.ownsMap_made (w.alloc (.cells #[.map (some (w.heap.size + 1))] 63)) Tryd.prog 3 (plainElem (H := Unit) Tryd.prog 3)
  rwa [World.size_alloc] at this
theorem chg_end {w V w1 : World} {o : Obj} {b : Nat} (hV : V = w.alloc o) (hg : V.grownBy w1 (some b)) : Chg (fun k => k = b) w w1 := by
  subst hV
  exact (Chg.alloc (fun k => k = b) w o).trans (Chg.of_grown hg) (fun x _ hd => Option.some.inj hd)
def EntR (b : Nat) (o : List Int) (i : Nat) (w : World) (e : Ending) (w' : World) : Prop :=
  e = .returned (.tuple #[]) ∧ Led w' b o i ∧ Chg (fun k => k = b) w w'
set_option maxRecDepth 100000 in
set_option maxHeartbeats 2000000 in
theorem enter_any (b : Nat) (o : List Int) (i : Nat) (x : Int) (hx : inN x) (hi : i ≤ 100000) (w : World) (h : Led w b o i) :
    Calls Tryd.prog 38 #[.agg #[.map (some b)], .int .i64 i, .int .i64 x] w (EntR b (stepO o x) (i + 1) w) := by
  obtain ⟨D, n, hown, hn, hm⟩ := h
  have HMo := Lib.hid hm
  have HX := Lib.hid hx
  obtain ⟨x1, x2⟩ := hx
  clear hm
  rcases Int.lt_trichotomy x 0 with hs | hs | hs
  · have HS := Lib.hid (stepO_down hs (o := o))
    have hkey : keyOf Tryd.prog 3 (.int .i64 (-x)) = some (keyI (-x)) := keyOfI (by omega)
    go_enter Tryd.func38, Tryd.ntmps38
    go_wp2_with (first
      | (at_delete; refine wpList_delete_own _ rfl _ _ 61 3 rfl 3 lawI Tryd.underlying61 _ b n D rfl (hown.alloc _) _ _ rfl hkey ?_; intro w1 hown1 hturn1)
      | go_in)
    go_end0
    rw [HS.out]
    exact ⟨rfl, ⟨_, _, hown1, by omega, (HMo.out.del (-x)).mono (by omega)⟩, chg_end rfl hturn1.grown⟩
  · subst hs
    go_enter Tryd.func38, Tryd.ntmps38
    go_wp2_with fail
    go_end0
    rw [stepO_zero]
    exact ⟨rfl, ⟨_, _, hown.alloc _, by omega, HMo.out.mono (by omega)⟩, Chg.alloc _ _ _⟩
  · have HS := Lib.hid (stepO_up hs (o := o))
    have hkey := keyOfI (x := x) (by omega)
    have hwi : (Lit.int .i64 (i : Int)).wf = true := WalkArith.wf_i64 (by omega)
    go_enter Tryd.func38, Tryd.ntmps38
    go_wp2_with (first
      | (at_mapUpdate; refine wpList_mapUpdate_own _ rfl _ _ _ 61 rfl 3 3 lawI Tryd.underlying61 _ b n D rfl (hown.alloc _) (by unfold maxLen; omega) _ _ _ rfl rfl hkey _ [] (plainElem_int Tryd.underlying3 hwi) ?_; intro w1 hown1 hgrow1)
      | go_in)
    go_end0
    rw [HS.out]
    exact ⟨rfl, ⟨_, _, hown1, by omega, HMo.out.put x (isKeyI x)⟩, chg_end rfl hgrow1⟩
end Go.Proofs.YtikdcnlbjpabjaaDoor.EntL
