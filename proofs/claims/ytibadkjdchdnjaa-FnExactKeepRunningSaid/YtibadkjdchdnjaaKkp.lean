import Derived.Test.YtibadkjdchdnjaaKfg
import Derived.Test.YtibadkjdchdnjaaM2
import Derived.Deep.AppendLies
import Derived.StillTailTactics
import Derived.BigRegion
import Derived.WalkMore
set_option linter.all false
namespace Go.Proofs.Ytibadkjdchdnjaa.Kkp
open Last2 (tk)
open Lib (hid)
open Go.ChangeShapes Go.WideShapes Go.ChangeAt Go.RowKit
open PL Mem Srun Sst To OwnS AskP StpS Res Swhole Sout IntsP LawI LawN PArgP Kpp Kfg
def okWatch (li sp : Int) : Bool := btw li 0 20 && btw sp 0 1000
theorem okWatch_iff {li sp : Int} (h : okWatch li sp = true) : (0 ≤ li ∧ li ≤ 20) ∧ (0 ≤ sp ∧ sp ≤ 1000) := by
 unfold okWatch btw at h
 simp only [Bool.and_eq_true, decide_eq_true_eq] at h
 omega
def areJ (js : List Int) : Bool := decide (js.length ≤ 20) && js.all isNum
theorem areJ_iff {js : List Int} (h : areJ js = true) : js.length ≤ 20 ∧ ∀ (i : Nat) (z : Int), js[i]? = some z → -32768 ≤ z ∧ z ≤ 32767 := by
 unfold areJ at h
 simp only [Bool.and_eq_true, decide_eq_true_eq, List.all_eq_true] at h
 refine ⟨h.1, fun i z hz => ?_⟩
 have := h.2 z (List.mem_of_getElem? hz)
 unfold isNum at this
 simp only [Bool.and_eq_true, decide_eq_true_eq] at this
 exact this
def failS (span : Int) (s : KS) : KS := { s with fails := s.fails ++ [s.clock], most := max s.most (late (s.fails ++ [s.clock]) (s.clock - span)) }
theorem failK_eq (span : Int) (o : Out) (s : KS) : failK span o s = failS span (goodK o s) := rfl
theorem late_zero (fs : List Int) (b : Int) : late (fs.take 0) b = 0 := rfl
theorem late_yes {fs : List Int} {b z : Int} {j : Nat} (hz : fs[j]? = some z) (h : b < z) : late (fs.take (j + 1)) b = late (fs.take j) b + 1 := by
 unfold late
 rw [List.take_add_one, hz]
 simp [h]
theorem late_no {fs : List Int} {b z : Int} {j : Nat} (hz : fs[j]? = some z) (h : ¬ b < z) : late (fs.take (j + 1)) b = late (fs.take j) b := by
 unfold late
 rw [List.take_add_one, hz]
 simp [h]
theorem late_all (fs : List Int) (b : Int) {n : Nat} (h : n = fs.length) : late (fs.take n) b = late fs b := by rw [List.take_of_length_le (by omega)]
theorem late_take (fs : List Int) (b : Int) (j : Nat) : late (fs.take j) b ≤ j := by
 have := late_le (fs.take j) b
 rw [List.length_take] at this
 omega
structure Two (lo : Nat) (ks fs : List Int) (vk vf : Value) (W : World) : Prop where
 kinds : OwnI W lo vk ks
 fails : OwnI W lo vf fs
 apart : ∀ k, vk.ownBlock = some k → vf.ownBlock ≠ some k
section
variable {lo : Nat} {ks fs : List Int} {vk vf : Value} {W W' : World}
theorem Two.below (h : Two lo ks fs vk vf W) (b : Below W.heap.size W W') : Two lo ks fs vk vf W' := ⟨own_below h.kinds b (Nat.le_refl _), own_below h.fails b (Nat.le_refl _), h.apart⟩
theorem Two.alloc (h : Two lo ks fs vk vf W) (o : Obj) : Two lo ks fs vk vf (W.alloc o) := ⟨World.ownsRow.alloc h.kinds o, World.ownsRow.alloc h.fails o, h.apart⟩
theorem Two.drew (h : Two lo ks fs vk vf W) : Two lo ks fs vk vf W.drew := ⟨World.ownsRow.drew h.kinds, World.ownsRow.drew h.fails, h.apart⟩
theorem Two.far {g : Nat} {t : TypeId} {cs : Array Value} (h : Two lo ks fs vk vf W) (hb : Blk W g t cs) (ht : 3 ≠ t) (o : Nat) (u : Value) : Two lo ks fs vk vf (W.setCell ⟨g, o, none⟩ u) :=
 ⟨own_far h.kinds _ _ (blk_apart h.kinds hb ht), own_far h.fails _ _ (blk_apart h.fails hb ht), h.apart⟩
theorem Two.pushK {v1 : Value} {v : Int} (h : Two lo ks fs vk vf W) (hc : Chg (fun y => vk.ownBlock = some y) W W') (ho : W'.ownsRow lo 3 1 v1 (ks.length + 1) (cellsI ks ++ [.int .i64 v])) (hg : v1.ownBlock = vk.ownBlock ∨ ∃ x, v1.ownBlock = some x ∧ W.heap.size ≤ x) :
  Two lo (ks ++ [v]) fs v1 vf W' := by
 refine ⟨?_, own_chg h.fails hc (fun k hk hk' => h.apart k hk' hk), fun k hk hf => ?_⟩
 ·unfold OwnI
  rw [List.length_append, List.length_singleton, cellsI_append]
  exact ho
 ·rcases hg with e | ⟨x, e, hx⟩
  ·exact h.apart k (by rw [← e]; exact hk) hf
  ·have := (World.ownsRow.lt h.fails k hf).2
   rw [e] at hk
   have : x = k := by simpa using hk
   omega
theorem Two.pushF {v1 : Value} {v : Int} (h : Two lo ks fs vk vf W) (hc : Chg (fun y => vf.ownBlock = some y) W W') (ho : W'.ownsRow lo 3 1 v1 (fs.length + 1) (cellsI fs ++ [.int .i64 v])) (hg : v1.ownBlock = vf.ownBlock ∨ ∃ x, v1.ownBlock = some x ∧ W.heap.size ≤ x) :
  Two lo ks (fs ++ [v]) vk v1 W' := by
 refine ⟨own_chg h.kinds hc (fun k hk hk' => h.apart k hk hk'), ?_, fun k hk hf => ?_⟩
 ·unfold OwnI
  rw [List.length_append, List.length_singleton, cellsI_append]
  exact ho
 ·rcases hg with e | ⟨x, e, hx⟩
  ·exact h.apart k hk (by rw [← e]; exact hf)
  ·have := (World.ownsRow.lt h.kinds k hk).2
   rw [e] at hf
   have : x = k := by simpa using hf
   omega
end
def kc (g : Nat) (li sp : Int) (s : KS) (vk vf : Value) : Array Value := #[runV g, .int .i64 li, .int .i64 sp, .int .i64 s.clock, vk, vf, .int .i64 s.most]
structure Kp (w : World) (kb g : Nat) (li sp : Int) (s : KS) (vk vf : Value) (W : World) : Prop where
 blk : Blk W kb 123 (kc g li sp s vk vf)
 two : Two w.heap.size s.kinds s.fails vk vf W
 chg : Chg (fun k => k = kb) w W
section
variable {w W W' : World} {kb g : Nat} {li sp : Int} {s s' : KS} {vk vf : Value}
theorem Kp.drew (h : Kp w kb g li sp s vk vf W) : Kp w kb g li sp s vk vf W.drew := ⟨h.blk, h.two.drew, h.chg.trans (Chg.drew (fun _ => False) W) (fun _ _ hx => hx.elim)⟩
theorem Kp.alloc (h : Kp w kb g li sp s vk vf W) (o : Obj) : Kp w kb g li sp s vk vf (W.alloc o) := ⟨h.blk.alloc o, h.two.alloc o, h.chg.new o⟩
theorem Kp.below (h : Kp w kb g li sp s vk vf W) (b : Below W.heap.size W W') : Kp w kb g li sp s vk vf W' := ⟨h.blk.below b h.blk.lt, h.two.below b, h.chg.trans (Chg.of_below (C := fun _ => False) b) (fun _ _ hx => hx.elim)⟩
theorem Kp.put {o : Nat} {u : Value} (h : Kp w kb g li sp s vk vf W) (hc : (kc g li sp s vk vf).setIfInBounds o u = kc g li sp s' vk vf) (hk : s'.kinds = s.kinds) (hf : s'.fails = s.fails) : Kp w kb g li sp s' vk vf (W.setCell ⟨kb, o, none⟩ u) :=
 ⟨hc ▸ h.blk.put o u, by rw [hk, hf]; exact h.two.far h.blk (by decide) o u, h.chg.put _ _ (.inr rfl)⟩
theorem Kp.pushK {v1 : Value} {v : Int} (h : Kp w kb g li sp s vk vf W) (hc : Chg (fun y => vk.ownBlock = some y) W W') (ho : W'.ownsRow w.heap.size 3 1 v1 (s.kinds.length + 1) (cellsI s.kinds ++ [.int .i64 v])) (hg : v1.ownBlock = vk.ownBlock ∨ ∃ x, v1.ownBlock = some x ∧ W.heap.size ≤ x) :
  Kp w kb g li sp { s with kinds := s.kinds ++ [v] } v1 vf (W'.setCell ⟨kb, 4, none⟩ v1) := by
 have hb := h.blk.chg hc (blk_apart h.two.kinds h.blk (by decide))
 refine ⟨?_, (h.two.pushK hc ho hg).far hb (by decide) _ _, (h.chg.trans hc (fun x hx e => by have := (World.ownsRow.lt h.two.kinds x e).1; omega)).put _ _ (.inr rfl)⟩
 have := hb.put 4 v1
 simpa only [kc, Last2.s] using this
theorem Kp.pushF {v1 : Value} {v : Int} (h : Kp w kb g li sp s vk vf W) (hc : Chg (fun y => vf.ownBlock = some y) W W') (ho : W'.ownsRow w.heap.size 3 1 v1 (s.fails.length + 1) (cellsI s.fails ++ [.int .i64 v])) (hg : v1.ownBlock = vf.ownBlock ∨ ∃ x, v1.ownBlock = some x ∧ W.heap.size ≤ x) :
  Kp w kb g li sp { s with fails := s.fails ++ [v] } vk v1 (W'.setCell ⟨kb, 5, none⟩ v1) := by
 have hb := h.blk.chg hc (blk_apart h.two.fails h.blk (by decide))
 refine ⟨?_, (h.two.pushF hc ho hg).far hb (by decide) _ _, (h.chg.trans hc (fun x hx e => by have := (World.ownsRow.lt h.two.fails x e).1; omega)).put _ _ (.inr rfl)⟩
 have := hb.put 5 v1
 simpa only [kc, Last2.s] using this
end
set_option maxRecDepth 100000 in
set_option maxHeartbeats 2000000 in
theorem isWatch_any (li sp : Int) (w : World) :
  Calls Try.prog 107 #[.agg #[.int .i64 li, .int .i64 sp]] w fun e w' => e = .returned (.bool (okWatch li sp)) ∧ Below w.heap.size w w' := by
 have hs : okWatch li sp = (btw li 0 20 && btw sp 0 1000) := rfl
 by_cases d0 : 0 ≤ li
 rotate_left
 ·have e0 : decide (0 ≤ li) = false := by simpa using d0
  have HS := hid (show okWatch li sp = false by rw [hs]; unfold btw; rw [e0]; simp)
  clear hs
  go_enter Try.func107, Try.ntmps107
  go_wp2_with fail
  go_ret
  exact ⟨by rw [HS.out] <;> rfl, (Below.refl _ _).alloc (Nat.le_refl _) _⟩
 by_cases d1 : li ≤ 20
 rotate_left
 ·have e1 : decide (li ≤ 20) = false := by simpa using d1
  have HS := hid (show okWatch li sp = false by rw [hs]; unfold btw; rw [e1]; simp)
  clear hs
  go_enter Try.func107, Try.ntmps107
  go_wp2_with fail
  go_ret
  exact ⟨by rw [HS.out] <;> rfl, (Below.refl _ _).alloc (Nat.le_refl _) _⟩
 by_cases d2 : 0 ≤ sp
 rotate_left
 ·have e2 : decide (0 ≤ sp) = false := by simpa using d2
  have HS := hid (show okWatch li sp = false by rw [hs]; unfold btw; rw [e2]; simp)
  clear hs
  go_enter Try.func107, Try.ntmps107
  go_wp2_with fail
  go_ret
  exact ⟨by rw [HS.out] <;> rfl, (Below.refl _ _).alloc (Nat.le_refl _) _⟩
 by_cases d3 : sp ≤ 1000
 rotate_left
 ·have e3 : decide (sp ≤ 1000) = false := by simpa using d3
  have HS := hid (show okWatch li sp = false by rw [hs]; unfold btw; rw [e3]; simp)
  clear hs
  go_enter Try.func107, Try.ntmps107
  go_wp2_with fail
  go_ret
  exact ⟨by rw [HS.out] <;> rfl, (Below.refl _ _).alloc (Nat.le_refl _) _⟩
 have HS := hid (show okWatch li sp = true by rw [hs]; unfold btw; rw [decide_eq_true d0, decide_eq_true d1, decide_eq_true d2, decide_eq_true d3]; rfl)
 clear hs
 go_enter Try.func107, Try.ntmps107
 go_wp2_with fail
 go_ret
 exact ⟨by rw [HS.out] <;> rfl, (Below.refl _ _).alloc (Nat.le_refl _) _⟩
set_option maxRecDepth 100000 in
set_option maxHeartbeats 2000000 in
theorem l8Watch_any (li sp : Int) (w : World) :
  Calls Try.prog 80 #[.agg #[.int .i64 li, .int .i64 sp]] w fun e w' => e = .returned (.bool (okWatch li sp)) ∧ Below w.heap.size w w' := by
 have h1 := hid (fun W => l1In_any li 0 20 W)
 have h2 := hid (fun W => l1In_any sp 0 1000 W)
 have hs : okWatch li sp = (btw li 0 20 && btw sp 0 1000) := rfl
 generalize btw li 0 20 = b1, btw sp 0 1000 = b2 at *
 cases b1 with
 | false =>
  have HS := hid (show okWatch li sp = false by rw [hs]; simp)
  clear hs
  go_enter Try.func80, Try.ntmps80
  go_wp2_with fail
  refine (h1.out _).mono ?_
  rintro e w1 ⟨rfl, rfl⟩
  go_wp2_with fail
  go_ret
  exact ⟨by rw [HS.out] <;> rfl, (Below.refl _ _).alloc (Nat.le_refl _) _⟩
 | true =>
  cases b2 with
  | false =>
   have HS := hid (show okWatch li sp = false by rw [hs]; simp)
   clear hs
   go_enter Try.func80, Try.ntmps80
   go_wp2_with fail
   refine (h1.out _).mono ?_
   rintro e w1 ⟨rfl, rfl⟩
   go_wp2_with fail
   refine (h2.out _).mono ?_
   rintro e w2 ⟨rfl, rfl⟩
   go_wp2_with fail
   go_ret
   exact ⟨by rw [HS.out] <;> rfl, (Below.refl _ _).alloc (Nat.le_refl _) _⟩
  | true =>
   have HS := hid (show okWatch li sp = true by rw [hs]; rfl)
   clear hs
   go_enter Try.func80, Try.ntmps80
   go_wp2_with fail
   refine (h1.out _).mono ?_
   rintro e w1 ⟨rfl, rfl⟩
   go_wp2_with fail
   refine (h2.out _).mono ?_
   rintro e w2 ⟨rfl, rfl⟩
   go_wp2_with fail
   go_ret
   exact ⟨by rw [HS.out] <;> rfl, (Below.refl _ _).alloc (Nat.le_refl _) _⟩
theorem areJobs_any (B : Nat) (A : Option Addr) (n c : Nat) (js : List Int) (hn : n ≤ 9223372036854775807) (hl : js.length = n) (w : World) (hr : RdI w B A js) :
  Calls Try.prog 106 #[.slice A n c] w fun e w' => e = .returned (.bool (areJ js)) ∧ w = w' := by
 have hR := hid hr
 have hL := hid hl
 have hN := hid (fun z W => Stp.isNumber_any z W)
 clear hr hl
 by_cases h20 : n ≤ 20
 ·go_enter Try.func106, Try.ntmps106
  go_wp2_with fail
  go_loop [10] (fun i => ∃ k : Nat, k ≤ n ∧ i = .int .i64 k ∧ ∀ (j : Nat) (z : Int), j < k → js[j]? = some z → isNum z = true) (fun i => n - (intOf i).toNat)
  case atStart => exact ⟨0, Nat.zero_le _, rfl, fun j z h => absurd h (by omega)⟩
  case round =>
   obtain ⟨k, hk, rfl, hall⟩ := hrel
   have HA := hid hall
   clear hall
   by_cases hlt : k < n
   ·obtain ⟨z, hz⟩ : ∃ z, js[k]? = some z := ⟨_, List.getElem?_eq_getElem (by rw [hL.out]; exact hlt)⟩
    obtain ⟨ad, rfl, hab, d0⟩ := hR.out k z hz
    have HZ := hid hz
    have hnz := hid (hN.out z)
    clear hz
    cases hb : isNum z with
    | true =>
     rw [hb] at hnz
     have HB := hid hb
     clear hb
     go_wp2_with fail
     refine (hnz.out _).mono ?_
     rintro e w1 ⟨rfl, rfl⟩
     go_wp2_with fail
     go_round
     case rel => exact ⟨k + 1, by omega, by go_num, fun j y hj hy => by
      rcases Nat.lt_succ_iff_lt_or_eq.1 hj with h | rfl
      ·exact HA.out j y h hy
      ·rw [HZ.out] at hy; cases hy; exact HB.out⟩
     case measure => simp [intOf]; omega
    | false =>
     rw [hb] at hnz
     have HF := hid (show areJ js = false by
      unfold areJ
      rw [Bool.and_eq_false_iff]
      refine .inr ?_
      rw [List.all_eq_false]
      exact ⟨z, List.mem_of_getElem? HZ.out, by rw [hb]; decide⟩)
     clear hb
     go_wp2_with fail
     refine (hnz.out _).mono ?_
     rintro e w1 ⟨rfl, rfl⟩
     go_wp2_with fail
     go_ret
     exact ⟨by rw [HF.out] <;> rfl, rfl⟩
   ·obtain rfl : k = n := by omega
    have HT := hid (show areJ js = true by
     unfold areJ
     rw [Bool.and_eq_true, decide_eq_true_eq, List.all_eq_true]
     refine ⟨by rw [hL.out]; exact h20, fun z hz => ?_⟩
     obtain ⟨j, hj, rfl⟩ := List.getElem_of_mem hz
     exact HA.out j _ (by rw [← hL.out]; exact hj) (List.getElem?_eq_getElem hj))
    go_wp2_with fail
    go_ret
    exact ⟨by rw [HT.out] <;> rfl, rfl⟩
 ·have HF := hid (show areJ js = false by unfold areJ; rw [decide_eq_false (by rw [hL.out]; exact h20)]; rfl)
  go_enter Try.func106, Try.ntmps106
  go_wp2_with fail
  go_ret
  exact ⟨by rw [HF.out] <;> rfl, rfl⟩
theorem given_any {w : World} {kb g : Nat} {li sp : Int} {s : KS} {vk vf : Value} {W : World} (h : Kp w kb g li sp s vk vf W) :
  Calls Try.prog 83 #[.pointer (some ⟨kb, 0, none⟩)] W fun e W' => e = .returned (.bool (decide (li < s.most))) ∧ Kp w kb g li sp s vk vf W' := by
 have H := hid h
 have z1 : W.cell? ⟨kb, 1, none⟩ = some (.int .i64 li) := h.blk.cells 1
 have z6 : W.cell? ⟨kb, 6, none⟩ = some (.int .i64 s.most) := h.blk.cells 6
 clear h
 go_enter Try.func83, Try.ntmps83
 go_wp2_with fail
 go_region
 go_wp2_with fail
 go_ret
 exact ⟨rfl, H.out.drew⟩
set_option maxRecDepth 100000 in
set_option maxHeartbeats 4000000 in
theorem fail_any {w : World} {kb g : Nat} {li sp : Int} {s : KS} {vk vf : Value} {W : World} (h : Kp w kb g li sp s vk vf W) (hsp : 0 ≤ sp ∧ sp ≤ 1000) (hck : 0 ≤ s.clock ∧ s.clock ≤ 100000) (hfl : s.fails.length ≤ 1000) (hms : 0 ≤ s.most ∧ s.most ≤ 1000) :
  Calls Try.prog 118 #[.pointer (some ⟨kb, 0, none⟩)] W fun e W' => e = .returned (.tuple #[]) ∧ ∃ A c, Kp w kb g li sp (failS sp s) vk (.slice A (failS sp s).fails.length c) W' := by
 obtain ⟨i0, hi, hz0, hz1, hz2⟩ := info_parts info3
 obtain ⟨Af, cf, rfl⟩ := own_slice h.two.fails
 have H := hid h
 have z3 : W.cell? ⟨kb, 3, none⟩ = some (.int .i64 s.clock) := h.blk.cells 3
 have z5 : W.cell? ⟨kb, 5, none⟩ = some (.slice Af s.fails.length cf) := h.blk.cells 5
 have hlo := h.chg.size
 clear h
 go_enter Try.func118, Try.ntmps118
 go_wp2_with fail
 have S0 : (fun V : World => V.cell? ⟨kb, 5, none⟩ = some (.slice Af s.fails.length cf) ∧ V.cell? ⟨kb, 3, none⟩ = some (.int .i64 s.clock)) W.drew := ⟨z5, z3⟩
 refine Last2.region_last [13] (fun V : World => V.cell? ⟨kb, 5, none⟩ = some (.slice Af s.fails.length cf) ∧ V.cell? ⟨kb, 3, none⟩ = some (.int .i64 s.clock)) (by kernel_rfl) ?_
 refine tk 0 5 (.pointer (some ⟨kb, 0, none⟩)) S0 ?_
 simp only [Act.put, Last2.s]
 refine tk 1 6 (.pointer (some ⟨kb, 0, none⟩)) S0 ?_
 simp only [Act.put, Last2.s]
 refine tk 2 7 (.pointer (some ⟨kb, 0, none⟩)) S0 ?_
 simp only [Act.put, Last2.s]
 refine tk 3 8 (.pointer (some ⟨kb, 5, none⟩)) S0 ?_
 simp only [Act.put, Last2.s]
 refine tk 4 9 (.slice Af s.fails.length cf) S0 ?_
 simp only [Act.put, Last2.s]
 refine tk 5 10 (.pointer (some ⟨kb, 0, none⟩)) S0 ?_
 simp only [Act.put, Last2.s]
 refine tk 6 11 (.pointer (some ⟨kb, 0, none⟩)) S0 ?_
 simp only [Act.put, Last2.s]
 refine tk 7 12 (.pointer (some ⟨kb, 3, none⟩)) S0 ?_
 simp only [Act.put, Last2.s]
 refine tk 8 13 (.int .i64 s.clock) S0 ?_
 simp only [Act.put, Last2.s]
 refine Last2.last_one (i := 9) (o := { dst := some 14, op := .buildSlice 28 1 #[(0, .tmp 13)], type := _, pos := _, after := _, guard := none }) (by kernel_rfl) rfl rfl (fun K hK => ?_)
 go_simp
 have hal : Below W.heap.size W (W.alloc (.cells #[.int .i64 s.clock] 3)) := (Below.refl _ _).alloc (Nat.le_refl _) _
 have S1 : (fun V : World => V.cell? ⟨kb, 5, none⟩ = some (.slice Af s.fails.length cf) ∧ V.cell? ⟨kb, 3, none⟩ = some (.int .i64 s.clock)) (W.alloc (.cells #[.int .i64 s.clock] 3)).drew := ⟨(H.out.blk.below hal H.out.blk.lt).cells 5, (H.out.blk.below hal H.out.blk.lt).cells 3⟩
 refine hK.out _ _ (fun _ => S1) ?_
 clear hK K S0
 try simp only [Act.put, Last2.s]
 have o0 := World.ownsRow.alloc H.out.two.fails (.cells #[.int .i64 s.clock] 3)
 have p0 := App.one_own (heap1_0 W (.cells #[.int .i64 s.clock] 3))
 refine Last2.last_one (i := 10) (o := { dst := some 15, op := .call { callee := .builtin .append, args := #[.tmp 9, .tmp 14], argTypes := #[28, 28] }, type := _, pos := _, after := _, guard := none }) (by kernel_rfl) rfl rfl (fun K hK => ?_)
 refine App.row_wp _ (.tmp 9) (.tmp 14) 28 rfl w.heap.size 0 3 i0 _ 1 8 Try.underlying28 hi hz0 hz1 hz2 rfl (by decide) _ _ _ rfl o0 _ 1 [.int .i64 s.clock] rfl p0 (by intro u hu; simp at hu; rcases hu with rfl; rfl) (by unfold maxLen; omega) (by omega) (by show w.heap.size ≤ (W.alloc _).heap.size; rw [World.size_alloc]; omega) ?_
 intro v1 w1 o1 g1 t1
 have ch : Chg (fun x => (Value.slice Af s.fails.length cf).ownBlock = some x) W w1 := Chg.trans (b := (W.alloc (.cells #[.int .i64 s.clock] 3)).drew) (Chg.trans (Chg.alloc _ W _) (Chg.drew (fun _ => False) _) (fun _ _ h => h.elim)) (Chg.of_grown g1) (fun x _ hx => hx.symm)
 have tt : v1.ownBlock = (Value.slice Af s.fails.length cf).ownBlock ∨ ∃ x, v1.ownBlock = some x ∧ W.heap.size ≤ x := t1.imp id (fun h => ⟨_, h, by show W.heap.size ≤ (W.alloc (.cells #[.int .i64 s.clock] 3)).heap.size; rw [World.size_alloc]; omega⟩)
 have b1 := H.out.blk.chg ch (blk_apart H.out.two.fails H.out.blk (by decide))
 have S2 : (fun V : World => V.cell? ⟨kb, 5, none⟩ = some (.slice Af s.fails.length cf) ∧ V.cell? ⟨kb, 3, none⟩ = some (.int .i64 s.clock)) w1 := ⟨(H.out.blk.chg ch (blk_apart H.out.two.fails H.out.blk (by decide))).cells 5, (H.out.blk.chg ch (blk_apart H.out.two.fails H.out.blk (by decide))).cells 3⟩
 refine hK.out _ _ (fun _ => S2) ?_
 clear hK K o0 p0 S1 hal
 obtain ⟨A1, c1, rfl⟩ := own_slice o1
 have k5 : w1.cell? ⟨kb, 5, none⟩ = some (.slice Af s.fails.length cf) := S2.1
 have f5 : w1.frozen? ⟨kb, 5, none⟩ = false := b1.frozen _
 have O1 := hid o1
 have CH := hid ch
 have TT := hid tt
 have SH := hid S2
 clear o1 g1 t1 tt ch b1 S2
 try simp only [Act.put, Last2.s]
 refine Last2.last_one (i := 11) (o := { dst := some 16, op := .nilCheck (.tmp 5), type := _, pos := _, after := _, guard := none }) (by kernel_rfl) rfl rfl (fun K hK => ?_)
 go_simp
 refine hK.out _ _ (fun _ => SH.out) ?_
 clear hK K
 refine Last2.last_one (i := 12) (o := { dst := some 17, op := .fieldAddr 123 (.tmp 16) 4, type := _, pos := _, after := _, guard := none }) (by kernel_rfl) rfl rfl (fun K hK => ?_)
 go_simp
 refine hK.out _ _ (fun _ => SH.out) ?_
 clear hK K
 refine Last2.last_one (i := 13) (o := { dst := none, op := .store 28 (.tmp 17) (.tmp 15), type := _, pos := _, after := _, guard := none }) (by kernel_rfl) rfl rfl (fun K hK => ?_)
 go_simp
 refine hK.out _ _ (fun h => (h (by decide)).elim) ?_
 clear hK K
 refine Last2.last_done (by kernel_rfl) ?_ _
 have R := hid (H.out.pushF CH.out O1.out TT.out)
 clear z3 z5 k5 f5 O1 CH TT SH H
 first | change (fun V => Exit.then _ _ _ _ V) _ | change (fun V => Code.wp _ _ _ _ V) _
 refine gen_world (X := fun V => Kp w kb g li sp { s with fails := s.fails ++ [s.clock] } vk (.slice A1 (s.fails.length + 1) c1) V) R.out ?_
 clear R
 intro W1 hR1
 obtain ⟨ga, rfl⟩ : ∃ ga, A1 = some ⟨ga, 0, none⟩ := by
  have hf := hR1.two.fails
  unfold OwnI at hf
  simp only [List.length_append, List.length_singleton] at hf
  rcases own_form hf with ⟨h, _⟩ | ⟨_, ga, cap, h, _⟩
  ·omega
  ·refine ⟨ga, ?_⟩
   simpa using (by simpa using h : A1 = some ⟨ga, 0, none⟩ ∧ c1 = cap).1
 obtain ⟨N, hN⟩ : ∃ N, s.fails.length + 1 = N := ⟨_, rfl⟩
 have z5 : W1.cell? ⟨kb, 5, none⟩ = some (.slice (some ⟨ga, 0, none⟩) (s.fails.length + 1) c1) := hR1.blk.cells 5
 have R1 := hid hR1
 have HFS : ∃ fs : List Int, fs = s.fails ++ [s.clock] := ⟨_, rfl⟩
 obtain ⟨fs, hfs⟩ := HFS
 have HN := hid (show fs.length = N by rw [hfs, List.length_append, List.length_singleton, hN])
 have HFI := hid (show failS sp s = { s with fails := fs, most := max s.most (late fs (s.clock - sp)) } by rw [hfs]; rfl)
 have HK := hid (show { s with fails := s.fails ++ [s.clock] } = { s with fails := fs } by rw [hfs])
 rw [hN] at z5 R1
 rw [HK.out] at R1
 have HHN := hid hN
 have hN1 : N ≤ 1001 := by omega
 clear hR1 hN hfs HK
 go_wp2_with fail
 go_loopw [2, 23] (fun r i wr => ∃ j : Nat, j ≤ N ∧ i = .int .i64 j ∧ r = .int .i64 (late (fs.take j) (s.clock - sp)) ∧ Kp w kb g li sp { s with fails := fs } vk (.slice (some ⟨ga, 0, none⟩) N c1) wr) (fun _ i _ => N - (intOf i).toNat)
 case atStart => exact ⟨0, Nat.zero_le _, rfl, by rw [late_zero]; rfl, R1.out⟩
 case round =>
  obtain ⟨j, hj, rfl, rfl, hK⟩ := hrel
  clear z5
  have z1 : wr.cell? ⟨kb, 2, none⟩ = some (.int .i64 sp) := hK.blk.cells 2
  have z3 : wr.cell? ⟨kb, 3, none⟩ = some (.int .i64 s.clock) := hK.blk.cells 3
  have z6 : wr.cell? ⟨kb, 6, none⟩ = some (.int .i64 s.most) := hK.blk.cells 6
  have f6 := hK.blk.frozen
  have hqj := late_take fs (s.clock - sp) j
  by_cases hlt : j < N
  ·obtain ⟨z, hz⟩ : ∃ z, fs[j]? = some z := ⟨_, List.getElem?_eq_getElem (by rw [HN.out]; exact hlt)⟩
   obtain ⟨ad, had, hab, d0⟩ := (OwnI.rd hK.two.fails HN.out) j z hz
   obtain rfl : ad = ⟨ga, 0, none⟩ := by simpa using had.symm
   have d1 : wr.cell? ⟨ga, j, none⟩ = some (.int .i64 z) := by simpa [go_sem] using d0
   have K1 := hid hK.drew
   have HY := hid (fun h => late_yes (b := s.clock - sp) hz h)
   have HNo := hid (fun h => late_no (b := s.clock - sp) hz h)
   clear hz had hK R1
   obtain ⟨q, hq⟩ : ∃ q, late (fs.take j) (s.clock - sp) = q := ⟨_, rfl⟩
   rw [hq] at hqj HY HNo ⊢
   clear hq
   by_cases hc : s.clock - sp < z
   ·have hy := hid (HY.out hc)
    clear HY HNo
    go_wp2_with fail
    go_region
    go_wp2_with fail
    go_roundw
    case rel => exact ⟨j + 1, by omega, by go_num, by rw [hy.out]; go_num, K1.out⟩
    case measure => simp [intOf]; omega
   ·have hy := hid (HNo.out hc)
    have hcb : decide (s.clock - sp < z) = false := by simpa using hc
    clear HY HNo hc
    go_wp2_with fail
    go_region
    go_wp2_with fail
    go_roundw
    case rel => exact ⟨j + 1, by omega, by go_num, by rw [hy.out], K1.out⟩
    case measure => simp [intOf]; omega
  ·have hla := hid (late_all fs (s.clock - sp) (n := j) (by rw [HN.out]; omega))
   have K1 := hid hK
   clear hK R1
   obtain ⟨q, hq⟩ : ∃ q, late (fs.take j) (s.clock - sp) = q := ⟨_, rfl⟩
   rw [hq] at hqj hla ⊢
   clear hq
   have hcb : decide (j < N) = false := by simpa using hlt
   by_cases hm : s.most < (q : Int)
   ·have HF := hid (show failS sp s = { s with fails := fs, most := (q : Int) } by rw [HFI.out, ← hla.out, show max s.most ((q : Nat) : Int) = (q : Int) by omega])
    have hm2 : ¬ (q : Int) < s.most := by omega
    go_wp2_with fail
    go_end0
    refine ⟨rfl, some ⟨ga, 0, none⟩, c1, ?_⟩
    rw [HF.out]
    dsimp only
    rw [HN.out]
    exact K1.out.put (by simp [kc]) rfl rfl
   ·have HF := hid (show failS sp s = { s with fails := fs, most := s.most } by rw [HFI.out, ← hla.out, show max s.most ((q : Nat) : Int) = s.most by omega])
    have hm2 : (q : Int) ≤ s.most := by omega
    go_wp2_with fail
    go_end0
    refine ⟨rfl, some ⟨ga, 0, none⟩, c1, ?_⟩
    rw [HF.out]
    dsimp only
    rw [HN.out]
    exact K1.out.put (by simp [kc]) rfl rfl
end Go.Proofs.Ytibadkjdchdnjaa.Kkp
-- squeezed
