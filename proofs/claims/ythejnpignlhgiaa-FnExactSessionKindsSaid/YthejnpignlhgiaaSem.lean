import Derived.Test.YthejnpignlhgiaaM24
import Derived.Test.YthejnpignlhgiaaLi
import Derived.Test.YthejnpignlhgiaaM2
import Derived.Test.YthejnpignlhgiaaM3
import Derived.Test.YthejnpignlhgiaaM12
import Derived.Deep.LoopGhost
set_option linter.all false
namespace Go.Proofs.Ythejnpignlhgiaa.SemP
open Lib (hid)
open Go.ChangeShapes Go.WideShapes Go.ChangeAt Go.RowKit Go.Deep
open PL Mem Srun Sst IntsP RowA Sz OpenP Swhole
theorem infoJob : (Try.prog.info? 142).map (fun i => (i.zero, i.size, i.bytes)) = some (some (.agg #[.int .i64 0, .int .i64 0]), 2, 16) := by kernel_rfl
structure RdSe (w : World) (B : Nat) (Aj Ah : Option Addr) (js : List Pr) (hs : List Int) : Prop where
 jobs : RdA w B Aj js
 hooks : RdI w B Ah hs
theorem RdSe.below {w w' : World} {B : Nat} {Aj Ah : Option Addr} {js : List Pr} {hs : List Int} (h : RdSe w B Aj Ah js hs) (hb : Below B w w') : RdSe w' B Aj Ah js hs := ⟨h.jobs.below hb, h.hooks.below hb⟩
theorem RdSe.more {w : World} {B B' : Nat} {Aj Ah : Option Addr} {js : List Pr} {hs : List Int} (h : RdSe w B Aj Ah js hs) (hB : B ≤ B') : RdSe w B' Aj Ah js hs := ⟨fun j s hs => by obtain ⟨ad, e, hb, r⟩ := h.jobs j s hs; exact ⟨ad, e, Nat.lt_of_lt_of_le hb hB, r⟩, h.hooks.more hB⟩
structure OwnSe (w : World) (lo : Nat) (nj nh : Nat) (vj vh : Value) (js : List Pr) (hs : List Int) : Prop where
 jobs : w.ownsRow lo 142 2 vj nj (cells2 js)
 hooks : w.ownsRow lo 3 1 vh nh (cellsI hs)
theorem OwnSe.rd {w : World} {lo nj nh cj ch : Nat} {Aj Ah : Option Addr} {js : List Pr} {hs : List Int} (h : OwnSe w lo nj nh (.slice Aj nj cj) (.slice Ah nh ch) js hs) : RdSe w w.heap.size Aj Ah js hs := ⟨rdA_own h.jobs, rdI_own h.hooks⟩
theorem OwnSe.below {w w' : World} {lo nj nh : Nat} {vj vh : Value} {js : List Pr} {hs : List Int} (h : OwnSe w lo nj nh vj vh js hs) (b : Below w.heap.size w w') : OwnSe w' lo nj nh vj vh js hs := ⟨own_below h.jobs b (Nat.le_refl _), own_below h.hooks b (Nat.le_refl _)⟩
theorem OwnSe.mono {w : World} {lo lo' nj nh : Nat} {vj vh : Value} {js : List Pr} {hs : List Int} (h : OwnSe w lo nj nh vj vh js hs) (hl : lo' ≤ lo) : OwnSe w lo' nj nh vj vh js hs := ⟨own_mono h.jobs hl, own_mono h.hooks hl⟩
def BolR (r : Bool × Bool) (w : World) (e : Ending) (w' : World) : Prop := e = .returned (.tuple #[.bool r.1, .bool r.2]) ∧ Below w.heap.size w w'
theorem szJobS_any (A : Option Addr) (n c : Nat) (l : Int) (h0 : 0 ≤ l) (h1 : l ≤ 2000000) (hn : n ≤ 9223372036854775807) (w : World) :
  Calls Try.prog 58 #[.slice A n c, .int .i64 l] w fun e w' => e = .returned (.int .i64 (szR l n)) ∧ w = w' := by
 by_cases h : l - (n : Int) < 0
 ·have hs := hid (show szR l n = -1 by rw [szR, if_pos h])
  go_enter Try.func58, Try.ntmps58
  go_wp2
  go_ret
  exact ⟨by rw [hs.out]; rfl, rfl⟩
 ·have hs := hid (show szR l n = l - n by rw [szR, if_neg h])
  go_enter Try.func58, Try.ntmps58
  go_wp2
  go_ret
  exact ⟨by rw [hs.out]; rfl, rfl⟩
theorem szIntS_any (A : Option Addr) (n c : Nat) (l : Int) (h0 : 0 ≤ l) (h1 : l ≤ 2000000) (hn : n ≤ 9223372036854775807) (w : World) :
  Calls Try.prog 59 #[.slice A n c, .int .i64 l] w fun e w' => e = .returned (.int .i64 (szR l n)) ∧ w = w' := by
 by_cases h : l - (n : Int) < 0
 ·have hs := hid (show szR l n = -1 by rw [szR, if_pos h])
  go_enter Try.func59, Try.ntmps59
  go_wp2
  go_ret
  exact ⟨by rw [hs.out]; rfl, rfl⟩
 ·have hs := hid (show szR l n = l - n by rw [szR, if_neg h])
  go_enter Try.func59, Try.ntmps59
  go_wp2
  go_ret
  exact ⟨by rw [hs.out]; rfl, rfl⟩
def szSe (l : Int) (nj nh : Nat) : Int := if szR l nj < 0 then -1 else if szR (szR l nj) nh < 0 then -1 else szR (szR l nj) nh
theorem szSe_small {l : Int} {nj nh : Nat} (h : ¬ szSe l nj nh < 0) (hl : l ≤ 1048576) : nj ≤ 1048576 ∧ nh ≤ 1048576 := by
 unfold szSe at h
 split at h
 ·omega
 ·rename_i h1
  split at h
  ·omega
  ·rename_i h2
   have e1 := szR_pos _ _ (by omega : 0 ≤ szR l nj)
   have e2 := szR_pos _ _ (by omega : 0 ≤ szR (szR l nj) nh)
   omega
theorem szSe_neg {l : Int} {nj nh : Nat} (h : szSe l nj nh < 0) : szSe l nj nh = -1 := by
 unfold szSe at *
 split at h
 ·rename_i h1; rw [if_pos h1]
 ·rename_i h1
  split at h
  ·rename_i h2; rw [if_neg h1, if_pos h2]
  ·omega
theorem szSession_any (Aj Ah : Option Addr) (nj nh cj ch : Nat) (mode l : Int) (h0 : 0 ≤ l) (h1 : l ≤ 2000000) (hj : nj ≤ 9223372036854775807) (hh : nh ≤ 9223372036854775807) (w : World) :
  Calls Try.prog 16 #[.agg #[.slice Aj nj cj, .slice Ah nh ch, .int .i64 mode], .int .i64 l] w fun e w' => e = .returned (.int .i64 (szSe l nj nh)) ∧ Below w.heap.size w w' := by
 have hJ := hid (fun W => szJobS_any Aj nj cj l h0 h1 hj W)
 have hal := hid (fun o => (show Below w.heap.size w (w.alloc o) from (Below.refl _ _).alloc (Nat.le_refl _) _))
 by_cases k1 : szR l nj < 0
 ·have hs := hid (show szSe l nj nh = -1 by unfold szSe; rw [if_pos k1])
  have h2 := (szR_neg _ _ k1).1
  rw [h2] at hJ
  clear k1 h2
  go_enter Try.func16, Try.ntmps16
  go_wp2_with fail
  refine (hJ.out _).mono ?_
  rintro e w1 ⟨rfl, rfl⟩
  go_wp2_with fail
  go_ret
  exact ⟨by rw [hs.out]; rfl, hal.out _⟩
 ·have e1 := szR_pos _ _ (by omega : 0 ≤ szR l nj)
  have hI := hid (fun W => szIntS_any Ah nh ch (szR l nj) (by omega) (by omega) hh W)
  have HS := hid (show szSe l nj nh = if szR (szR l nj) nh < 0 then -1 else szR (szR l nj) nh by unfold szSe; rw [if_neg k1])
  generalize szR l nj = l1 at *
  clear e1
  by_cases k2 : szR l1 nh < 0
  ·have hs := hid (show szSe l nj nh = -1 by rw [HS.out, if_pos k2])
   have h2 := (szR_neg _ _ k2).1
   rw [h2] at hI
   clear k2 h2
   go_enter Try.func16, Try.ntmps16
   go_wp2_with fail
   refine (hJ.out _).mono ?_
   rintro e w1 ⟨rfl, rfl⟩
   go_wp2_with fail
   refine (hI.out _).mono ?_
   rintro e w1 ⟨rfl, rfl⟩
   go_wp2_with fail
   go_ret
   exact ⟨by rw [hs.out]; rfl, hal.out _⟩
  ·have hs := hid (show szSe l nj nh = szR l1 nh by rw [HS.out, if_neg k2])
   generalize szR l1 nh = l2 at *
   go_enter Try.func16, Try.ntmps16
   go_wp2_with fail
   refine (hJ.out _).mono ?_
   rintro e w1 ⟨rfl, rfl⟩
   go_wp2_with fail
   refine (hI.out _).mono ?_
   rintro e w1 ⟨rfl, rfl⟩
   go_wp2_with fail
   go_ret
   exact ⟨by rw [hs.out]; rfl, hal.out _⟩
theorem toJob_any (a b : Int) (w : World) :
  Calls Try.prog 100 #[.agg #[.int .i64 a, .int .i64 b]] w fun e w' => e = .returned (.agg #[.int .i64 a, .int .i64 b]) ∧ Below w.heap.size w w' := by
 go_enter Try.func100, Try.ntmps100
 go_wp2
 exact bodyPost_ret (v := .agg #[.int .i64 a, .int .i64 b]) (by simp [results, Try.results100, go_sem]) rfl ⟨rfl, (((Below.refl _ _).alloc (Nat.le_refl _) _).alloc (by simp) _).alloc (by simp; omega) _⟩
theorem made2 (n : Nat) : (madeCells #[Value.int .i64 0, Value.int .i64 0] (n * 2)).toList = cells2 (List.replicate n (0, 0)) := by
 apply List.ext_getElem?
 intro i
 by_cases h : i < n * 2
 ·obtain ⟨q, r, hr, rfl⟩ : ∃ q r, r < 2 ∧ i = q * 2 + r := ⟨i / 2, i % 2, by omega, by omega⟩
  have hj : (List.replicate n ((0, 0) : Int × Int))[q]? = some (0, 0) := by simp [List.getElem?_replicate]; omega
  obtain ⟨h0, h1⟩ := cells2_at _ _ _ hj
  have hm : (madeCells #[Value.int .i64 0, Value.int .i64 0] (n * 2)).toList[q * 2 + r]? = some (.int .i64 0) := by
   have e : (q * 2 + r) % 2 = r := by omega
   have hr' : r = 0 ∨ r = 1 := by omega
   rcases hr' with rfl | rfl <;> simp [madeCells] <;> exact ⟨_, List.getElem?_range h, by simp⟩
  rw [hm]
  match r, hr with
  | 0, _ => exact h0.symm
  | 1, _ => exact h1.symm
 ·rw [List.getElem?_eq_none (by simp [madeCells]; omega), List.getElem?_eq_none (by rw [cells2_length]; simp; omega)]
set_option maxHeartbeats 1000000 in
theorem toJobS_any (B : Nat) (A : Option Addr) (n c : Nat) (xs : List Pr) (hn : n ≤ 2000000) (hl : xs.length = n) (w : World) (hr : RdA w B A xs) (hB : B ≤ w.heap.size) :
  Calls Try.prog 63 #[.slice A n c] w fun e w' => e = .returned (.slice (some ⟨w.heap.size, 0, none⟩) n n) ∧
   w'.ownsRow w.heap.size 142 2 (.slice (some ⟨w.heap.size, 0, none⟩) n n) n (cells2 xs) ∧ Below w.heap.size w w' := by
 obtain ⟨i0, hi, hz0, hz1, hz2⟩ := info_parts infoJob
 have hmk := fun W => run_make_rowN (P := Try.prog) 37 142 i0 _ Try.underlying37 hi hz0 .i64 .i64 n n (Nat.le_refl _) (by rw [hz2]; omega) (by omega) W
 have hR := hid hr
 have hL := hid hl
 clear hi hz0 hz2 hr hl
 rw [hz1] at hmk
 go_enter Try.func63, Try.ntmps63
 go_wp2
 go_loopw [4] (fun i wr => ∃ k : Nat, k ≤ n ∧ i = .int .i64 k ∧ wr.ownsRow w.heap.size 142 2 (.slice (some ⟨w.heap.size, 0, none⟩) n n) n (cells2 (xs.take k ++ List.replicate (n - k) (0, 0))) ∧ Below w.heap.size w wr) (fun i _ => n - (intOf i).toNat)
 case atStart =>
  refine ⟨0, Nat.zero_le _, rfl, ?_, (Below.refl _ _).alloc (Nat.le_refl _) _⟩
  have := World.ownsRow_lit (base := w.heap.size) (e := 142) (size := 2) w (madeCells #[Value.int .i64 0, Value.int .i64 0] (n * 2)) n (Nat.le_refl _) (by unfold maxLen; omega) (size_madeCells _ _)
  rw [made2] at this
  simpa using this
 case round =>
  obtain ⟨k, hk, rfl, hown, hb⟩ := hrel
  by_cases hlt : k < n
  ·obtain ⟨⟨s0, s1⟩, hs⟩ : ∃ s, xs[k]? = some s := ⟨_, List.getElem?_eq_getElem (by rw [hL.out]; exact hlt)⟩
   obtain ⟨ad, rfl, hab, h0, h1⟩ := (hR.out.below (hb.mono hB)) k _ hs
   have hS := hid hs
   have hO := hid hown
   have hsz := hb.size
   have HG := hid (show ∃ s, (xs.take k ++ List.replicate (n - k) ((0, 0) : Int × Int))[k]? = some s from ⟨_, List.getElem?_eq_getElem (by rw [List.length_append, List.length_take, List.length_replicate, hL.out]; omega)⟩)
   clear hs hown
   dsimp only at h0 h1
   go_wp2_with (go_at_call 100; refine (toJob_any _ _ _).mono ?_; rintro e w1 ⟨rfl, hb1⟩; obtain ⟨sq, hsq⟩ := HG.out; obtain ⟨g0, g1⟩ := own_cell2 (own_below hO.out hb1 (Nat.le_refl _)) hsq; have f := (own_below hO.out hb1 (Nat.le_refl _)).frozenAt)
   go_roundw
   case rel =>
    refine ⟨k + 1, by omega, by go_num, ?_, ?_⟩
    ·rw [← To.set_prefix xs (0, 0) (s0, s1) k n hL.out hS.out]
     exact own_set2 (own_below hO.out hb1 (Nat.le_refl _)) hsq (s0, s1)
    ·exact ((hb.trans (hb1.mono hsz)).setCell (p := ⟨w.heap.size, k * 2, none⟩) (Nat.le_refl _) _).setCell (p := ⟨w.heap.size, k * 2 + 1, none⟩) (Nat.le_refl _) _
   case measure => simp [intOf]; omega
  ·obtain rfl : k = n := by omega
   have hO := hid hown
   clear hown
   go_wp2
   go_ret
   refine ⟨rfl, ?_, hb⟩
   have := hO.out
   rwa [List.take_of_length_le (by rw [hL.out]; omega), Nat.sub_self, List.replicate_zero, List.append_nil] at this
set_option maxHeartbeats 4000000 in
set_option maxRecDepth 100000 in
theorem toSession_any (B : Nat) (Aj Ah : Option Addr) (nj nh cj ch : Nat) (mode : Int) (js : List Pr) (hs : List Int) (hj : nj ≤ 2000000) (hh : nh ≤ 2000000) (lj : js.length = nj) (lh : hs.length = nh) (w : World) (hr : RdSe w B Aj Ah js hs) (hB : B ≤ w.heap.size) :
  Calls Try.prog 19 #[.agg #[.slice Aj nj cj, .slice Ah nh ch, .int .i64 mode]] w fun e w' => ∃ g g', e = .returned (.agg #[.slice (some ⟨g, 0, none⟩) nj nj, .slice (some ⟨g', 0, none⟩) nh nh, .int .i64 mode]) ∧
   OwnSe w' w.heap.size nj nh (.slice (some ⟨g, 0, none⟩) nj nj) (.slice (some ⟨g', 0, none⟩) nh nh) js hs ∧ Below w.heap.size w w' := by
 have hJ := hid (fun W (h : Below w.heap.size w W) => toJobS_any B Aj nj cj js hj lj W (hr.jobs.below (h.mono hB)) (Nat.le_trans hB h.size))
 have hI := hid (fun W (h : Below w.heap.size w W) => LiP.toIntS_any B Ah nh ch hs hh lh W (hr.hooks.below (h.mono hB)) (Nat.le_trans hB h.size))
 clear hr lj lh
 go_enter Try.func19, Try.ntmps19
 go_upto_region 2 with fail
 change (fun V => Code.wp _ _ _ _ V) _
 refine gen_world (X := fun V => Blk V w.heap.size 28 #[.slice Aj nj cj, .slice Ah nh ch, .int .i64 mode] ∧ Blk V (w.heap.size + 1) 39 #[.slice none 0 0, .slice none 0 0, .int .i64 0] ∧ Blk V (w.heap.size + 1 + 1) 39 #[.slice none 0 0, .slice none 0 0, .int .i64 0] ∧ Below w.heap.size w V) ⟨heap3_0 w _ _ _, heap3_1 w _ _ _, heap3_2 w _ _ _, (((Below.refl _ _).alloc (Nat.le_refl _) _).alloc (by simp) _).alloc (by simp <;> omega) _⟩ ?_
 rintro V ⟨x0, x1, x2, b⟩
 have z0 : V.cell? ⟨w.heap.size, 0, none⟩ = some (.slice Aj nj cj) := x0.cells 0
 have X0 := hid x0
 have X1 := hid x1
 have X2 := hid x2
 have HB := hid b
 clear x0 x1 x2 b
 go_wp2_with fail
 refine (hJ.out V HB.out).mono ?_
 rintro e V1 ⟨rfl, o1, b1⟩
 have Y0 := X0.out.below b1 X0.out.lt
 have Y1 := X1.out.below b1 X1.out.lt
 have Y2 := X2.out.below b1 X2.out.lt
 have fz := Y2.frozen
 have c2' := Y2.cells
 have BB := HB.out.trans (b1.mono HB.out.size)
 go_upto_region 3 with fail
 change (fun V => Code.wp _ _ _ _ V) _
 refine gen_world (X := fun W => Blk W w.heap.size 28 #[.slice Aj nj cj, .slice Ah nh ch, .int .i64 mode] ∧ Blk W (w.heap.size + 1) 39 #[.slice none 0 0, .slice none 0 0, .int .i64 0] ∧ Blk W (w.heap.size + 1 + 1) 39 #[.slice (some ⟨V.heap.size, 0, none⟩) nj nj, .slice none 0 0, .int .i64 0] ∧ W.ownsRow w.heap.size 142 2 (.slice (some ⟨V.heap.size, 0, none⟩) nj nj) nj (cells2 js) ∧ Below w.heap.size w W)
  ⟨Y0.far _ _ (by show w.heap.size ≠ w.heap.size + 1 + 1; omega), Y1.far _ _ (by show w.heap.size + 1 ≠ w.heap.size + 1 + 1; omega), Y2.put 0 _, own_far (own_mono o1 HB.out.size) _ _ (blk_apart o1 Y2 (by decide)), BB.setCell (p := ⟨w.heap.size + 1 + 1, 0, none⟩) (by show w.heap.size ≤ w.heap.size + 1 + 1; omega) _⟩ ?_
 generalize V.heap.size = g at *
 clear hJ X0 X1 X2 HB o1 b1 Y0 Y1 Y2 BB fz c2' z0
 rintro V ⟨x0, x1, x2, o1, b⟩
 have z0 : V.cell? ⟨w.heap.size, 1, none⟩ = some (.slice Ah nh ch) := x0.cells 1
 have X0 := hid x0
 have X1 := hid x1
 have X2 := hid x2
 have O1 := hid o1
 have HB := hid b
 clear x0 x1 x2 b o1
 go_wp2_with fail
 refine (hI.out V HB.out).mono ?_
 rintro e V1 ⟨rfl, o2, b1⟩
 have Y0 := X0.out.below b1 X0.out.lt
 have Y1 := X1.out.below b1 X1.out.lt
 have Y2 := X2.out.below b1 X2.out.lt
 have fz := Y2.frozen
 have c2' := Y2.cells
 have BB := HB.out.trans (b1.mono HB.out.size)
 have O2 := own_below O1.out b1 (Nat.le_refl _)
 go_upto_region 4 with fail
 change (fun V => Code.wp _ _ _ _ V) _
 refine gen_world (X := fun W => Blk W w.heap.size 28 #[.slice Aj nj cj, .slice Ah nh ch, .int .i64 mode] ∧ Blk W (w.heap.size + 1) 39 #[.slice none 0 0, .slice none 0 0, .int .i64 0] ∧ Blk W (w.heap.size + 1 + 1) 39 #[.slice (some ⟨g, 0, none⟩) nj nj, .slice (some ⟨V.heap.size, 0, none⟩) nh nh, .int .i64 0] ∧ OwnSe W w.heap.size nj nh (.slice (some ⟨g, 0, none⟩) nj nj) (.slice (some ⟨V.heap.size, 0, none⟩) nh nh) js hs ∧ Below w.heap.size w W)
  ⟨Y0.far _ _ (by show w.heap.size ≠ w.heap.size + 1 + 1; omega), Y1.far _ _ (by show w.heap.size + 1 ≠ w.heap.size + 1 + 1; omega), Y2.put 1 _, ⟨own_far O2 _ _ (blk_apart O2 Y2 (by decide)), own_far (own_mono o2 HB.out.size) _ _ (blk_apart o2 Y2 (by decide))⟩, BB.setCell (p := ⟨w.heap.size + 1 + 1, 1, none⟩) (by show w.heap.size ≤ w.heap.size + 1 + 1; omega) _⟩ ?_
 generalize V.heap.size = g' at *
 clear hI X0 X1 X2 HB o2 b1 Y0 Y1 Y2 BB fz c2' z0 O1 O2
 rintro V ⟨x0, x1, x2, o1, b⟩
 have z0 := x0.cells
 have z1 := x1.cells
 have z2 := x2.cells
 have f1 := x1.frozen
 have f2 := x2.frozen
 have X1 := hid x1
 have X2 := hid x2
 have O1 := hid o1
 have HB := hid b
 clear x0 x1 x2 b o1
 go_wp2_with fail
 refine gen_post (X := fun W => Blk W (w.heap.size + 1) 39 #[.slice (some ⟨g, 0, none⟩) nj nj, .slice (some ⟨g', 0, none⟩) nh nh, .int .i64 mode] ∧ OwnSe W w.heap.size nj nh (.slice (some ⟨g, 0, none⟩) nj nj) (.slice (some ⟨g', 0, none⟩) nh nh) js hs ∧ Below w.heap.size w W) ⟨?_, ⟨?_, ?_⟩, ?_⟩ ?_
 ·have := (((X1.out.far ⟨w.heap.size + 1 + 1, 2, none⟩ (.int .i64 mode) (by show w.heap.size + 1 ≠ w.heap.size + 1 + 1; omega)).put 0 (.slice (some ⟨g, 0, none⟩) nj nj)).put 1 (.slice (some ⟨g', 0, none⟩) nh nh)).put 2 (.int .i64 mode)
  simpa only [List.setIfInBounds_toArray, List.set_cons_zero, List.set_cons_succ] using this
 ·have n1 := blk_apart O1.out.jobs X1.out (by decide)
  have n2 := blk_apart O1.out.jobs X2.out (by decide)
  iterate 3 refine own_far ?_ _ _ n1
  exact own_far O1.out.jobs _ _ n2
 ·have n1 := blk_apart O1.out.hooks X1.out (by decide)
  have n2 := blk_apart O1.out.hooks X2.out (by decide)
  iterate 3 refine own_far ?_ _ _ n1
  exact own_far O1.out.hooks _ _ n2
 ·iterate 3 refine Below.setCell ?_ (by show w.heap.size ≤ w.heap.size + 1; omega) _
  exact HB.out.setCell (p := ⟨w.heap.size + 1 + 1, 2, none⟩) (by show w.heap.size ≤ w.heap.size + 1 + 1; omega) _
 clear z0 z1 z2 f1 f2 X1 X2 O1 HB
 rintro W ⟨y1, y2⟩
 have V1 := y1.cells
 have HV := hid y2
 clear y1 y2
 exact bodyPost_ret (v := .agg #[.slice (some ⟨g, 0, none⟩) nj nj, .slice (some ⟨g', 0, none⟩) nh nh, .int .i64 mode]) (by simp [results, Try.results19, go_sem, V1]) rfl ⟨g, g', rfl, HV.out.1, HV.out.2⟩
theorem eqJob_same (a b : Int) (w : World) :
  Calls Try.prog 105 #[.agg #[.int .i64 a, .int .i64 b], .agg #[.int .i64 a, .int .i64 b]] w fun e w' => e = .returned (.bool true) ∧ Below w.heap.size w w' := by
 go_enter Try.func105, Try.ntmps105
 go_wp2
 go_ret
 exact ⟨rfl, ((Below.refl _ _).alloc (Nat.le_refl _) _).alloc (by simp) _⟩
theorem eqJobS_same (B : Nat) (A A' : Option Addr) (n c c' : Nat) (xs : List Pr) (hn : n ≤ 9223372036854775807) (hl : xs.length = n) (w : World) (hr : RdA w B A xs) (hr' : RdA w B A' xs) (hB : B ≤ w.heap.size) :
  Calls Try.prog 68 #[.slice A n c, .slice A' n c'] w fun e w' => e = .returned (.bool true) ∧ Below w.heap.size w w' := by
 have hR := hid hr
 have hR' := hid hr'
 have hL := hid hl
 clear hr hr' hl
 go_enter Try.func68, Try.ntmps68
 go_wp2
 go_loopw [5] (fun i wr => ∃ k : Nat, k ≤ n ∧ i = .int .i64 k ∧ Below w.heap.size w wr) (fun i _ => n - (intOf i).toNat)
 case atStart => exact ⟨0, Nat.zero_le _, rfl, Below.refl _ _⟩
 case round =>
  obtain ⟨k, hk, rfl, hb⟩ := hrel
  by_cases hlt : k < n
  ·obtain ⟨⟨s0, s1⟩, hs⟩ : ∃ s, xs[k]? = some s := ⟨_, List.getElem?_eq_getElem (by rw [hL.out]; exact hlt)⟩
   obtain ⟨ad, rfl, hab, h0, h1⟩ := (hR.out.below (hb.mono hB)) k _ hs
   obtain ⟨ad', rfl, hab', h0', h1'⟩ := (hR'.out.below (hb.mono hB)) k _ hs
   have hsz := hb.size
   clear hs
   dsimp only at h0 h1 h0' h1'
   go_wp2_with fail
   go_region_with (go_at_call 105; refine (eqJob_same _ _ _).mono ?_; rintro e w1 ⟨rfl, hb1⟩)
   all_goals
    go_wp2
    go_roundw
    case rel => exact ⟨k + 1, by omega, by go_num, hb.trans ((below_undrew hb1).mono hsz)⟩
    case measure => simp [intOf]; omega
  ·go_wp2
   go_ret
   exact ⟨rfl, hb⟩
set_option maxHeartbeats 1000000 in
theorem eqSession_same (B : Nat) (Aj Aj' Ah Ah' : Option Addr) (nj cj cj' nh ch ch' : Nat) (mode : Int) (js : List Pr) (hs : List Int) (hj : nj ≤ 9223372036854775807) (hh : nh ≤ 9223372036854775807) (lj : js.length = nj) (lh : hs.length = nh) (w : World) (hr : RdSe w B Aj Ah js hs) (hr' : RdSe w B Aj' Ah' js hs) (hB : B ≤ w.heap.size) :
  Calls Try.prog 22 #[.agg #[.slice Aj nj cj, .slice Ah nh ch, .int .i64 mode], .agg #[.slice Aj' nj cj', .slice Ah' nh ch', .int .i64 mode]] w fun e w' => e = .returned (.bool true) ∧ Below w.heap.size w w' := by
 have hJ := hid (fun W (h : Below w.heap.size w W) => eqJobS_same B Aj Aj' nj cj cj' js hj lj W (hr.jobs.below (h.mono hB)) (hr'.jobs.below (h.mono hB)) (Nat.le_trans hB h.size))
 have hI := hid (fun W (h : Below w.heap.size w W) => eqIntS_same B Ah Ah' nh ch ch' hs hh lh W (hr.hooks.below (h.mono hB)) (hr'.hooks.below (h.mono hB)) (Nat.le_trans hB h.size))
 clear hr hr' lj lh
 go_enter Try.func22, Try.ntmps22
 go_upto_region 1 with fail
 change (fun V => Code.wp _ _ _ _ V) _
 refine gen_world (X := fun V => Blk V w.heap.size 39 #[.slice Aj nj cj, .slice Ah nh ch, .int .i64 mode] ∧ Blk V (w.heap.size + 1) 39 #[.slice Aj' nj cj', .slice Ah' nh ch', .int .i64 mode] ∧ Below w.heap.size w V) ⟨heap2_0 w _ _, heap2_1 w _ _, ((Below.refl _ _).alloc (Nat.le_refl _) _).alloc (by simp) _⟩ ?_
 rintro V ⟨x0, x1, b⟩
 have z0 : V.cell? ⟨w.heap.size, 0, none⟩ = some (.slice Aj nj cj) := x0.cells 0
 have z1 : V.cell? ⟨w.heap.size + 1, 0, none⟩ = some (.slice Aj' nj cj') := x1.cells 0
 have X0 := hid x0
 have X1 := hid x1
 have HB := hid b
 clear x0 x1 b
 go_wp2_with fail
 refine (hJ.out V HB.out).mono ?_
 rintro e V1 ⟨rfl, b1⟩
 have Y0 := X0.out.below b1 X0.out.lt
 have Y1 := X1.out.below b1 X1.out.lt
 have B1 := HB.out.trans (b1.mono HB.out.size)
 have y0 : V1.cell? ⟨w.heap.size, 1, none⟩ = some (.slice Ah nh ch) := Y0.cells 1
 have y1 : V1.cell? ⟨w.heap.size + 1, 1, none⟩ = some (.slice Ah' nh ch') := Y1.cells 1
 have HY0 := hid Y0
 have HY1 := hid Y1
 have HB1 := hid B1
 clear z0 z1 Y0 Y1 b1 B1 X0 X1
 go_wp2_with fail
 refine (hI.out V1 HB1.out).mono ?_
 rintro e V2 ⟨rfl, b1⟩
 have z0 : V2.cell? ⟨w.heap.size, 2, none⟩ = some (.int .i64 mode) := (HY0.out.below b1 HY0.out.lt).cells 2
 have z1 : V2.cell? ⟨w.heap.size + 1, 2, none⟩ = some (.int .i64 mode) := (HY1.out.below b1 HY1.out.lt).cells 2
 clear y0 y1
 go_wp2_with fail
 go_ret
 exact ⟨rfl, HB1.out.trans (b1.mono HB1.out.size)⟩
def fitS (s : Pr) : Prop := fit s.1 ∧ fit s.2
section
variable {H : Type} {enc : TypeId × Value → H} {w : World} {base : Nat} {spare : Nat → Bool} {held : Bool}
set_option maxRecDepth 100000 in
theorem job_of {fuel : Nat} {cs : List Value} {x : DataW H × List MemPlace} (h : DataW.trod enc Try.prog w base spare held fuel 145 cs = some x) : ∃ s : Pr, cs = c2 s ∧ fitS s := by
 obtain ⟨xs, n, _, _, hlen, hxl, hf⟩ := DataW.trod_struct Try.underlying145 h
 have h3 : cs.length = 2 := hlen.trans (by kernel_rfl)
 have h3x : xs.length = 2 := hxl
 match cs, h3 with
 | [c0, c1], _ =>
  match xs, h3x with
  | [y0, y1], _ =>
   have k : Try.prog.cellsOf 3 = 1 := by kernel_rfl
   have g0 : DataW.trod enc Try.prog w base spare held n 3 (([c0, c1].drop 0).take (Try.prog.cellsOf 3)) = some y0 := hf 0 _ rfl
   have g1 : DataW.trod enc Try.prog w base spare held n 3 (([c0, c1].drop 1).take (Try.prog.cellsOf 3)) = some y1 := hf 1 _ rfl
   rw [k] at g0 g1
   obtain ⟨z0, e0, f0⟩ := int_of (x := y0) (by simpa using g0)
   obtain ⟨z1, e1, f1⟩ := int_of (x := y1) (by simpa using g1)
   refine ⟨(z0, z1), ?_, f0, f1⟩
   simp at e0 e1
   rw [e0, e1]; rfl
set_option maxRecDepth 100000 in
theorem jobs_of {fuel : Nat} {cs : List Value} {x : DataW H × List MemPlace} (h : DataW.trod enc Try.prog w base spare held fuel 25 cs = some x) :
  ∃ A c xs, cs = [.slice A xs.length c] ∧ xs.length ≤ maxLen ∧ RdA w w.heap.size A xs ∧ ∀ (j : Nat) (s : Pr), xs[j]? = some s → fitS s := by
 rcases open_slice Try.underlying25 h with ⟨h0, _⟩ | ⟨a, len, cap, m, n, D, Pl, rfl, hb, hl, hm, hmm, _, hi⟩
 ·exact ⟨none, 0, [], h0, by simp, fun j s hs => by simp at hs, fun j s hs => by simp at hs⟩
 ·have hc : Try.prog.cellsOf 145 = 2 := by kernel_rfl
  rw [hc] at hi
  have hlm : len ≤ m := by rw [hmm]; split <;> omega
  obtain ⟨F, hF⟩ := choose_lt (α := Pr) (n := len) (p := fun i s => fitS s ∧ w.cell? (a.add (i * 2)) = some (.int .i64 s.1) ∧ w.cell? ((a.add (i * 2)).add 1) = some (.int .i64 s.2)) (fun i hil => by
   obtain ⟨cs', h1, h2⟩ := hi i (by omega)
   obtain ⟨s, rfl, hs⟩ := job_of h2
   obtain ⟨_, _, hat⟩ := World.cells?_some h1
   have a0 := hat 0 (by omega)
   have a1 := hat 1 (by omega)
   refine ⟨s, hs, ?_, a1⟩
   have z0 : ∀ b : Addr, b.add 0 = b := fun b => by simp [Addr.add]
   rw [z0] at a0
   exact a0)
  refine ⟨some a, cap, (List.range len).map F, by simp, by simp; omega, fun j s hs => ?_, fun j s hs => ?_⟩
  ·have hj : j < len := by have := (List.getElem?_eq_some_iff.1 hs).1; simpa using this
   obtain rfl : F j = s := by simpa [hj] using hs
   obtain ⟨_, g0, g1⟩ := hF j hj
   have hlt := World.block_lt_of_cell? w _ g0
   rw [block_of_add] at hlt
   exact ⟨a, rfl, hlt, g0, g1⟩
  ·have hj : j < len := by have := (List.getElem?_eq_some_iff.1 hs).1; simpa using this
   obtain rfl : F j = s := by simpa [hj] using hs
   exact (hF j hj).1
set_option maxRecDepth 100000 in
theorem open_session {r : Reach} {b0 : Nat} {v : Value} {d : DataW H} {ps : List MemPlace} (hv : Value.okWide Try.prog w r b0 28 v) (h : DataW.Trod enc Try.prog w base spare held 28 v d ps) :
  ∃ Aj cj js Ah ch hs mode, v = .agg #[.slice Aj js.length cj, .slice Ah hs.length ch, .int .i64 mode] ∧ js.length ≤ maxLen ∧ hs.length ≤ maxLen ∧ RdSe w w.heap.size Aj Ah js hs ∧ fit mode ∧ (∀ (j : Nat) (s : Pr), js[j]? = some s → fitS s) ∧ (∀ (j : Nat) (z : Int), hs[j]? = some z → fit z) := by
 obtain ⟨cs, rfl, hsz⟩ := okWide_struct Try.underlying28 hv
 have h1 : cs.size = 3 := hsz.trans (by kernel_rfl)
 obtain ⟨l⟩ := cs
 match l, h1 with
 | [c0, c1, c2'], _ =>
  obtain ⟨fuel, hf⟩ := h
  obtain ⟨xs, n, _, _, _, hlen, hg⟩ := DataW.trod_struct Try.underlying28 hf
  have hx1 : xs.length = 3 := hlen
  match xs, hx1 with
  | [y0, y1, y2], _ =>
   have k0 : Try.prog.cellsOf 25 = 1 := by kernel_rfl
   have k1 : Try.prog.cellsOf 26 = 1 := by kernel_rfl
   have k2 : Try.prog.cellsOf 3 = 1 := by kernel_rfl
   have g0 : DataW.trod enc Try.prog w base spare held n 25 (([c0, c1, c2'].drop 0).take (Try.prog.cellsOf 25)) = some y0 := hg 0 _ rfl
   have g1 : DataW.trod enc Try.prog w base spare held n 26 (([c0, c1, c2'].drop 1).take (Try.prog.cellsOf 26)) = some y1 := hg 1 _ rfl
   have g2 : DataW.trod enc Try.prog w base spare held n 3 (([c0, c1, c2'].drop 2).take (Try.prog.cellsOf 3)) = some y2 := hg 2 _ rfl
   rw [k0] at g0
   rw [k1] at g1
   rw [k2] at g2
   obtain ⟨Aj, cj, js, e0, l0, r0, f0⟩ := jobs_of (x := y0) (by simpa [Value.cells] using g0)
   obtain ⟨Ah, ch, hs, e1, l1, r1, f1⟩ := LiP.ints_of (x := y1) (by simpa [Value.cells] using g1)
   obtain ⟨z2, e2, f2⟩ := int_of (x := y2) (by simpa using g2)
   refine ⟨Aj, cj, js, Ah, ch, hs, z2, ?_, l0, l1, ⟨r0, r1⟩, f2, f0, f1⟩
   simp at e0 e1 e2
   rw [e0, e1, e2]
end
end Go.Proofs.Ythejnpignlhgiaa.SemP
-- squeezed
