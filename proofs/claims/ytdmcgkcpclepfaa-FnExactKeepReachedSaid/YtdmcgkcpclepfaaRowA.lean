import Derived.Test.YtdmcgkcpclepfaaSrun
import Derived.Test.YtdmcgkcpclepfaaInts
import Derived.Deep.RegionHeld3
import Derived.Deep.RegionWith
import Derived.BigQuiet
import Derived.Test.YtdmcgkcpclepfaaSst
import Derived.Deep.Cut
set_option linter.all false
namespace Go.Proofs.Ytdmcgkcpclepfaa.RowA
open Go.ChangeShapes Go.WideShapes Go.ChangeAt Go.RowKit
open PL Mem Srun Sst IntsP
abbrev Pr := Int × Int
theorem cells2_put : ∀ (l : List Pr) (j : Nat) (s s' : Pr) (o : Nat) (u : Value), l[j]? = some s → o < 2 → (c2 s).set o u = c2 s' → (cells2 l).set (j * 2 + o) u = cells2 (l.set j s')
 | [], j, s, s', o, u, h, _, _ => by simp at h
 | a :: l, 0, s, s', o, u, h, ho, he => by
  obtain rfl : a = s := by simpa using h
  have e : ∀ x, cells2 (x :: l) = c2 x ++ cells2 l := fun x => by simp [cells2]
  rw [e, Nat.zero_mul, Nat.zero_add, List.set_append_left _ _ (by show o < 2; exact ho), he, List.set_cons_zero, e]
 | a :: l, j + 1, s, s', o, u, h, ho, he => by
  have := cells2_put l j s s' o u (by simpa using h) ho he
  have e : ∀ l, cells2 (a :: l) = c2 a ++ cells2 l := fun l => by simp [cells2]
  have e2 : (c2 a).length = 2 := rfl
  rw [e, List.set_append_right _ _ (by rw [e2]; omega), e2, show (j + 1) * 2 + o - 2 = j * 2 + o by omega, this, List.set_cons_succ, e]
def RdA (w : World) (B : Nat) (A : Option Addr) (xs : List Pr) : Prop :=
 ∀ j s, xs[j]? = some s → ∃ ad, A = some ad ∧ ad.block < B ∧ w.cell? (ad.add (j * 2)) = some (.int .i64 s.1) ∧ w.cell? ⟨(ad.add (j * 2)).block, (ad.add (j * 2)).off + 1, none⟩ = some (.int .i64 s.2)
theorem RdA.keep {w w' : World} {B : Nat} {A : Option Addr} {xs : List Pr} (h : RdA w B A xs) (hk : ∀ p : Addr, p.block < B → w'.cell? p = w.cell? p) : RdA w' B A xs :=
 fun j s hs => by
  obtain ⟨ad, e, hb, h0, h1⟩ := h j s hs
  have hb' : (ad.add (j * 2)).block < B := by rw [block_of_add]; exact hb
  exact ⟨ad, e, hb, (hk _ hb').trans h0, (hk ⟨_, _, none⟩ hb').trans h1⟩
theorem RdA.below {w w' : World} {B : Nat} {A : Option Addr} {xs : List Pr} (h : RdA w B A xs) (hb : Below B w w') : RdA w' B A xs := h.keep fun _ hp => hb.cell hp
def OwnA (w : World) (lo : Nat) (v : Value) (xs : List Pr) : Prop := w.ownsRow lo 85 2 v xs.length (cells2 xs)
theorem rdA_own {w : World} {B n c e : Nat} {A : Option Addr} {xs : List Pr} (h : w.ownsRow B e 2 (.slice A n c) n (cells2 xs)) : RdA w w.heap.size A xs := by
 intro j s hs
 have hn : xs.length = n := by have := h.1; rw [cells2_length] at this; omega
 have hj : j < xs.length := (List.getElem?_eq_some_iff.1 hs).1
 rcases own_form h with ⟨h0, _⟩ | ⟨_, g, cap, hv, _, hg⟩
 ·omega
 ·simp only [Value.slice.injEq, true_and] at hv
  obtain ⟨rfl, rfl⟩ := hv
  obtain ⟨c0, c1⟩ := cells2_at xs j s hs
  refine ⟨_, rfl, hg, ?_, ?_⟩ <;> rw [add_own]
  ·rw [h.cellAt _ (by omega)]; exact c0
  ·show w.cell? ⟨g, j * 2 + 1, none⟩ = _; rw [h.cellAt _ (by omega)]; exact c1
theorem OwnA.rd {w : World} {lo n c : Nat} {A : Option Addr} {xs : List Pr} (h : OwnA w lo (.slice A n c) xs) (hn : xs.length = n) : RdA w w.heap.size A xs := by
 unfold OwnA at h
 rw [hn] at h
 exact rdA_own h
theorem own_cell2 {w : World} {B e n g c : Nat} {xs : List Pr} (h : w.ownsRow B e 2 (.slice (some ⟨g, 0, none⟩) n c) n (cells2 xs)) {j : Nat} {s : Pr} (hs : xs[j]? = some s) :
  w.cell? ⟨g, j * 2, none⟩ = some (.int .i64 s.1) ∧ w.cell? ⟨g, j * 2 + 1, none⟩ = some (.int .i64 s.2) := by
 have hn : xs.length = n := by have := h.1; rw [cells2_length] at this; omega
 have hj : j < xs.length := (List.getElem?_eq_some_iff.1 hs).1
 obtain ⟨c0, c1⟩ := cells2_at xs j s hs
 exact ⟨(h.cellAt _ (by omega)).trans c0, (h.cellAt _ (by omega)).trans c1⟩
theorem own_put2 {w : World} {B e n g cap : Nat} {xs : List Pr} (h : w.ownsRow B e 2 (.slice (some ⟨g, 0, none⟩) n cap) n (cells2 xs)) {j : Nat} {s : Pr} (hs : xs[j]? = some s) (o : Nat) (u : Value) (s' : Pr) (ho : o < 2) (he : (c2 s).set o u = c2 s') :
  (w.setCell ⟨g, j * 2 + o, none⟩ u).ownsRow B e 2 (.slice (some ⟨g, 0, none⟩) n cap) n (cells2 (xs.set j s')) := by
 have := (h.stored (j * 2 + o) u).1
 rwa [cells2_put xs j s s' o u hs ho he] at this
def mkA (m : Int) : Pr := (m, m + 1)
def marksA (k : Int) (n : Nat) : List Pr := (List.range n).map (fun (i : Nat) => mkA (k + 2 * i))
theorem marksA_length (k : Int) (n : Nat) : (marksA k n).length = n := by simp [marksA]
theorem marksA_at (k : Int) (n i : Nat) (h : i < n) : (marksA k n)[i]? = some (mkA (k + 2 * i)) := by simp [marksA, h]
theorem marksA_succ (k : Int) (n : Nat) : marksA k (n + 1) = marksA k n ++ [mkA (k + 2 * n)] := by simp [marksA, List.range_succ]
theorem marksA_set (k : Int) (xs : List Pr) (i : Nat) (hi : i < xs.length) : (marksA k i ++ xs.drop i).set i (mkA (k + 2 * i)) = marksA k (i + 1) ++ xs.drop (i + 1) := by
 rw [List.set_append_right _ _ (by rw [marksA_length]; exact Nat.le_refl _), marksA_length, Nat.sub_self, List.drop_eq_getElem_cons hi, List.set_cons_zero, marksA_succ, List.append_assoc]
 rfl
theorem own_set2 {w : World} {B e n g cap : Nat} {xs : List Pr} (h : w.ownsRow B e 2 (.slice (some ⟨g, 0, none⟩) n cap) n (cells2 xs)) {j : Nat} {s : Pr} (hs : xs[j]? = some s) (s' : Pr) :
  ((w.setCell ⟨g, j * 2, none⟩ (.int .i64 s'.1)).setCell ⟨g, j * 2 + 1, none⟩ (.int .i64 s'.2)).ownsRow B e 2 (.slice (some ⟨g, 0, none⟩) n cap) n (cells2 (xs.set j s')) := by
 have hj : j < xs.length := (List.getElem?_eq_some_iff.1 hs).1
 have h0 := own_put2 h hs 0 (.int .i64 s'.1) (s'.1, s.2) (by decide) rfl
 have h1 := own_put2 h0 (List.getElem?_set_self hj) 1 (.int .i64 s'.2) s' (by decide) rfl
 rw [List.set_set] at h1
 exact h1
theorem eqIntA2_same (a b : Int) (w : World) :
  Calls Try.prog 97 #[.agg #[.int .i64 a, .int .i64 b], .agg #[.int .i64 a, .int .i64 b]] w fun e w' => e = .returned (.bool true) ∧ Below w.heap.size w w' := by
 go_enter Try.func97, Try.ntmps97
 go_upto_region 1 with fail
 change (fun V => Code.wp _ _ _ _ V) _
 refine gen_world (X := fun V => Blk V w.heap.size 85 #[.int .i64 a, .int .i64 b] ∧ Blk V (w.heap.size + 1) 85 #[.int .i64 a, .int .i64 b] ∧ Below w.heap.size w V) ⟨heap2_0 w _ _, heap2_1 w _ _, ((Below.refl _ _).alloc (Nat.le_refl _) _).alloc (by simp) _⟩ ?_
 rintro V ⟨x0, x1, b⟩
 generalize w.heap.size + 1 = g1 at *
 have B := Lib.hid b
 have X0 := Lib.hid x0
 have X1 := Lib.hid x1
 clear b x0 x1
 go_wp2_with fail
 go_loopw [5] (fun i wr => ∃ k : Nat, k ≤ 2 ∧ i = .int .i64 k ∧ Below w.heap.size w wr ∧ Blk wr w.heap.size 85 #[.int .i64 a, .int .i64 b] ∧ Blk wr g1 85 #[.int .i64 a, .int .i64 b]) (fun i _ => 2 - (intOf i).toNat)
 case atStart => exact ⟨0, Nat.zero_le _, rfl, B.out, X0.out, X1.out⟩
 case round =>
  obtain ⟨k, hk, rfl, hb, y0, y1⟩ := hrel
  clear B X0 X1
  have HB := Lib.hid (⟨hb.drew, y0, y1⟩ : Below w.heap.size w wr.drew ∧ Blk wr.drew w.heap.size 85 #[.int .i64 a, .int .i64 b] ∧ Blk wr.drew g1 85 #[.int .i64 a, .int .i64 b])
  have HB0 := Lib.hid hb
  have h3 : k = 0 ∨ k = 1 ∨ k = 2 := by omega
  rcases h3 with rfl | rfl | rfl
  ·have p0 : wr.cell? ⟨w.heap.size, 0, none⟩ = some (.int .i64 a) := y0.cells 0
   have p1 : wr.cell? ⟨g1, 0, none⟩ = some (.int .i64 a) := y1.cells 0
   clear y0 y1 hb
   go_wp2_with fail
   go_region
   all_goals
    go_wp2_with fail
    go_roundw
    case rel => exact ⟨1, by omega, rfl, HB.out.1, HB.out.2.1, HB.out.2.2⟩
    case measure => simp [intOf]
  ·have p0 : wr.cell? ⟨w.heap.size, 1, none⟩ = some (.int .i64 b) := y0.cells 1
   have p1 : wr.cell? ⟨g1, 1, none⟩ = some (.int .i64 b) := y1.cells 1
   clear y0 y1 hb
   go_wp2_with fail
   go_region
   all_goals
    go_wp2_with fail
    go_roundw
    case rel => exact ⟨2, by omega, rfl, HB.out.1, HB.out.2.1, HB.out.2.2⟩
    case measure => simp [intOf]
  ·clear y0 y1 hb
   go_wp2_with fail
   go_ret
   exact ⟨rfl, HB0.out⟩
theorem eqIntA2S_same (B : Nat) (A A' : Option Addr) (n c c' : Nat) (xs : List Pr) (hn : n ≤ 9223372036854775807) (hl : xs.length = n) (w : World) (hr : RdA w B A xs) (hr' : RdA w B A' xs) (hB : B ≤ w.heap.size) :
  Calls Try.prog 42 #[.slice A n c, .slice A' n c'] w fun e w' => e = .returned (.bool true) ∧ Below w.heap.size w w' := by
 have hR := Lib.hid hr
 have hR' := Lib.hid hr'
 have hL := Lib.hid hl
 clear hr hr' hl
 go_enter Try.func42, Try.ntmps42
 go_wp2
 go_loopw [5] (fun i wr => ∃ k : Nat, k ≤ n ∧ i = .int .i64 k ∧ Below w.heap.size w wr) (fun i _ => n - (intOf i).toNat)
 case atStart => exact ⟨0, Nat.zero_le _, rfl, Below.refl _ _⟩
 case round =>
  obtain ⟨k, hk, rfl, hb⟩ := hrel
  by_cases hlt : k < n
  ·obtain ⟨⟨s0, s1⟩, hs⟩ : ∃ s, xs[k]? = some s := ⟨_, List.getElem?_eq_getElem (by rw [hL.out]; exact hlt)⟩
   obtain ⟨ad, rfl, hab, h0, h1⟩ := (hR.out.below (hb.mono hB)) k _ hs
   obtain ⟨ad', rfl, hab', h0', h1'⟩ := (hR'.out.below (hb.mono hB)) k _ hs
   have hsz := hb.size
   clear hs
   dsimp only at h0 h1 h0' h1'
   go_wp2_with fail
   go_region_with (go_at_call 97; refine (eqIntA2_same _ _ _).mono ?_; rintro e w1 ⟨rfl, hb1⟩)
   all_goals
    go_wp2
    go_roundw
    case rel => exact ⟨k + 1, by omega, by go_num, hb.trans ((below_undrew hb1).mono hsz)⟩
    case measure => simp [intOf]; omega
  ·go_wp2
   go_ret
   exact ⟨rfl, hb⟩
end Go.Proofs.Ytdmcgkcpclepfaa.RowA
-- squeezed
