import Derived.Test.YthejnpignlhgiaaM1
import Derived.Test.YthejnpignlhgiaaM2
import Derived.Deep.RegionHeld3
import Derived.Deep.RegionWith
import Derived.BigQuiet
import Derived.Test.YthejnpignlhgiaaM3
import Derived.Deep.Cut
set_option linter.all false
namespace Go.Proofs.Ythejnpignlhgiaa.RowA
open Go.ChangeShapes Go.WideShapes Go.ChangeAt Go.RowKit
open PL Mem Srun Sst IntsP
abbrev Pr := Int × Int
theorem cells2_put : ∀ (l : List Pr) (j : Nat) (s s' : Pr) (o : Nat) (u : Value), l[j]? = some s → o < 2 → (c2 s).set o u = c2 s' → (cells2 l).set (j * 2 + o) u = cells2 (l.set j s')
 | [], j, s, s', o, u, h, _, _ => by simp at h
 | a :: l, 0, s, s', o, u, h, ho, he => by
  obtain rfl : a = s := by simpa using h
  have e : ∀ x, cells2 (x :: l) = c2 x ++ cells2 l := fun x => by simp [cells2]
  rw [e, Nat.zero_mul, Nat.zero_add, List.set_append_left _ _ (by show o < 2; exact ho), he, List.set_cons_zero, e]
 | a :: l, j + 1, s, s', o, u, h, ho, he => by
  have := cells2_put l j s s' o u (by simpa using h) ho he
  have e : ∀ l, cells2 (a :: l) = c2 a ++ cells2 l := fun l => by simp [cells2]
  have e2 : (c2 a).length = 2 := rfl
  rw [e, List.set_append_right _ _ (by rw [e2]; omega), e2, show (j + 1) * 2 + o - 2 = j * 2 + o by omega, this, List.set_cons_succ, e]
def RdA (w : World) (B : Nat) (A : Option Addr) (xs : List Pr) : Prop :=
 ∀ j s, xs[j]? = some s → ∃ ad, A = some ad ∧ ad.block < B ∧ w.cell? (ad.add (j * 2)) = some (.int .i64 s.1) ∧ w.cell? ⟨(ad.add (j * 2)).block, (ad.add (j * 2)).off + 1, none⟩ = some (.int .i64 s.2)
theorem RdA.keep {w w' : World} {B : Nat} {A : Option Addr} {xs : List Pr} (h : RdA w B A xs) (hk : ∀ p : Addr, p.block < B → w'.cell? p = w.cell? p) : RdA w' B A xs :=
 fun j s hs => by
  obtain ⟨ad, e, hb, h0, h1⟩ := h j s hs
  have hb' : (ad.add (j * 2)).block < B := by rw [block_of_add]; exact hb
  exact ⟨ad, e, hb, (hk _ hb').trans h0, (hk ⟨_, _, none⟩ hb').trans h1⟩
theorem RdA.below {w w' : World} {B : Nat} {A : Option Addr} {xs : List Pr} (h : RdA w B A xs) (hb : Below B w w') : RdA w' B A xs := h.keep fun _ hp => hb.cell hp
def OwnA (w : World) (lo : Nat) (v : Value) (xs : List Pr) : Prop := w.ownsRow lo 177 2 v xs.length (cells2 xs)
theorem rdA_own {w : World} {B n c e : Nat} {A : Option Addr} {xs : List Pr} (h : w.ownsRow B e 2 (.slice A n c) n (cells2 xs)) : RdA w w.heap.size A xs := by
 intro j s hs
 have hn : xs.length = n := by have := h.1; rw [cells2_length] at this; omega
 have hj : j < xs.length := (List.getElem?_eq_some_iff.1 hs).1
 rcases own_form h with ⟨h0, _⟩ | ⟨_, g, cap, hv, _, hg⟩
 ·omega
 ·simp only [Value.slice.injEq, true_and] at hv
  obtain ⟨rfl, rfl⟩ := hv
  obtain ⟨c0, c1⟩ := cells2_at xs j s hs
  refine ⟨_, rfl, hg, ?_, ?_⟩ <;> rw [add_own]
  ·rw [h.cellAt _ (by omega)]; exact c0
  ·show w.cell? ⟨g, j * 2 + 1, none⟩ = _; rw [h.cellAt _ (by omega)]; exact c1
theorem OwnA.rd {w : World} {lo n c : Nat} {A : Option Addr} {xs : List Pr} (h : OwnA w lo (.slice A n c) xs) (hn : xs.length = n) : RdA w w.heap.size A xs := by
 unfold OwnA at h
 rw [hn] at h
 exact rdA_own h
theorem own_cell2 {w : World} {B e n g c : Nat} {xs : List Pr} (h : w.ownsRow B e 2 (.slice (some ⟨g, 0, none⟩) n c) n (cells2 xs)) {j : Nat} {s : Pr} (hs : xs[j]? = some s) :
  w.cell? ⟨g, j * 2, none⟩ = some (.int .i64 s.1) ∧ w.cell? ⟨g, j * 2 + 1, none⟩ = some (.int .i64 s.2) := by
 have hn : xs.length = n := by have := h.1; rw [cells2_length] at this; omega
 have hj : j < xs.length := (List.getElem?_eq_some_iff.1 hs).1
 obtain ⟨c0, c1⟩ := cells2_at xs j s hs
 exact ⟨(h.cellAt _ (by omega)).trans c0, (h.cellAt _ (by omega)).trans c1⟩
theorem own_put2 {w : World} {B e n g cap : Nat} {xs : List Pr} (h : w.ownsRow B e 2 (.slice (some ⟨g, 0, none⟩) n cap) n (cells2 xs)) {j : Nat} {s : Pr} (hs : xs[j]? = some s) (o : Nat) (u : Value) (s' : Pr) (ho : o < 2) (he : (c2 s).set o u = c2 s') :
  (w.setCell ⟨g, j * 2 + o, none⟩ u).ownsRow B e 2 (.slice (some ⟨g, 0, none⟩) n cap) n (cells2 (xs.set j s')) := by
 have := (h.stored (j * 2 + o) u).1
 rwa [cells2_put xs j s s' o u hs ho he] at this
def mkA (m : Int) : Pr := (m, m + 1)
def marksA (k : Int) (n : Nat) : List Pr := (List.range n).map (fun (i : Nat) => mkA (k + 2 * i))
theorem marksA_length (k : Int) (n : Nat) : (marksA k n).length = n := by simp [marksA]
theorem marksA_at (k : Int) (n i : Nat) (h : i < n) : (marksA k n)[i]? = some (mkA (k + 2 * i)) := by simp [marksA, h]
theorem marksA_succ (k : Int) (n : Nat) : marksA k (n + 1) = marksA k n ++ [mkA (k + 2 * n)] := by simp [marksA, List.range_succ]
theorem marksA_set (k : Int) (xs : List Pr) (i : Nat) (hi : i < xs.length) : (marksA k i ++ xs.drop i).set i (mkA (k + 2 * i)) = marksA k (i + 1) ++ xs.drop (i + 1) := by
 rw [List.set_append_right _ _ (by rw [marksA_length]; exact Nat.le_refl _), marksA_length, Nat.sub_self, List.drop_eq_getElem_cons hi, List.set_cons_zero, marksA_succ, List.append_assoc]
 rfl
theorem own_set2 {w : World} {B e n g cap : Nat} {xs : List Pr} (h : w.ownsRow B e 2 (.slice (some ⟨g, 0, none⟩) n cap) n (cells2 xs)) {j : Nat} {s : Pr} (hs : xs[j]? = some s) (s' : Pr) :
  ((w.setCell ⟨g, j * 2, none⟩ (.int .i64 s'.1)).setCell ⟨g, j * 2 + 1, none⟩ (.int .i64 s'.2)).ownsRow B e 2 (.slice (some ⟨g, 0, none⟩) n cap) n (cells2 (xs.set j s')) := by
 have hj : j < xs.length := (List.getElem?_eq_some_iff.1 hs).1
 have h0 := own_put2 h hs 0 (.int .i64 s'.1) (s'.1, s.2) (by decide) rfl
 have h1 := own_put2 h0 (List.getElem?_set_self hj) 1 (.int .i64 s'.2) s' (by decide) rfl
 rw [List.set_set] at h1
 exact h1
end Go.Proofs.Ythejnpignlhgiaa.RowA

namespace Go.Proofs.Ythejnpignlhgiaa.LawA
open Go.ChangeShapes Go.WideShapes Go.ChangeAt Go.RowKit
open PL Mem To MarkP RowA
def PrsR (r : List Pr × Bool) (w : World) (e : Ending) (w' : World) : Prop :=
 ∃ A c, e = .returned (.tuple #[.slice A r.1.length c, .bool r.2]) ∧ OwnA w' w.heap.size (.slice A r.1.length c) r.1 ∧ Below w.heap.size w w'
def OwnAH (w : World) (lo hi : Nat) (v : Value) (xs : List Pr) : Prop := OwnA w lo v xs ∧ ∀ k, v.ownBlock = some k → k < hi
theorem OwnAH.of {w : World} {lo : Nat} {v : Value} {xs : List Pr} (h : OwnA w lo v xs) : OwnAH w lo w.heap.size v xs := ⟨h, fun k hk => (World.ownsRow.lt h k hk).2⟩
theorem OwnAH.keep {w w' : World} {lo hi : Nat} {v : Value} {xs : List Pr} (h : OwnAH w lo hi v xs) (hk : ∀ b, lo ≤ b → b < hi → w'.heap[b]? = w.heap[b]?) : OwnAH w' lo hi v xs := by
 obtain ⟨⟨h1, h2⟩, hh⟩ := h
 refine ⟨⟨h1, ?_⟩, hh⟩
 rcases h2 with h0 | ⟨g, cap, cur, rfl, hB, hg, r⟩
 ·exact .inl h0
 ·exact .inr ⟨g, cap, cur, rfl, hB, by rw [hk g hB (hh g rfl)]; exact hg, r⟩
theorem OwnAH.below {w w' : World} {lo hi : Nat} {v : Value} {xs : List Pr} (h : OwnAH w lo hi v xs) (hb : Below hi w w') : OwnAH w' lo hi v xs := h.keep fun b _ hb' => hb.block b hb'
theorem OwnAH.chg {C : Nat → Prop} {w w' : World} {lo hi : Nat} {v : Value} {xs : List Pr} (h : OwnAH w lo hi v xs) (hb : Chg C w w') (hh : hi ≤ w.heap.size) (hC : ∀ k, lo ≤ k → k < hi → ¬ C k) : OwnAH w' lo hi v xs :=
 h.keep fun b h1 h2 => hb.block b (by omega) (hC b h1 h2)
structure StA (w : World) (n c : Nat) (A : Option Addr) (bx : Nat) (vw vx vg : Value) (Lw Hw Lx Hx Lg Hg : Nat) (qw : List Pr) (px : Pg) (qg : List Pr) (W : World) : Prop where
 below : Below w.heap.size w W
 a : Blk W w.heap.size 24 #[.slice A n c]
 x0 : Blk W bx 35 #[vx]
 ow : OwnAH W Lw Hw vw qw
 ox : OwnH W Lx Hx vx px
 og : OwnAH W Lg Hg vg qg
 ord : w.heap.size < Lw ∧ Lw ≤ Hw ∧ Hw ≤ Lx ∧ Lx ≤ Hx ∧ Hx ≤ bx ∧ bx < Lg ∧ Lg ≤ Hg ∧ Hg ≤ W.heap.size
section
variable {w : World} {n c : Nat} {A : Option Addr} {bx : Nat} {vw vx vg : Value} {Lw Hw Lx Hx Lg Hg : Nat} {qw : List Pr} {px : Pg} {qg : List Pr} {W W' : World}
theorem StA.next (h : StA w n c A bx vw vx vg Lw Hw Lx Hx Lg Hg qw px qg W) (b : Below W.heap.size W W') : StA w n c A bx vw vx vg Lw Hw Lx Hx Lg Hg qw px qg W' := by
 have o := h.ord
 have s := b.size
 exact ⟨h.below.trans (b.mono h.below.size), h.a.below b h.a.lt, h.x0.below b h.x0.lt, h.ow.below (b.mono (by omega)), h.ox.below (b.mono (by omega)), h.og.below (b.mono (by omega)), by omega⟩
theorem StA.cells (h : StA w n c A bx vw vx vg Lw Hw Lx Hx Lg Hg qw px qg W) : W.cell? ⟨w.heap.size, 0, none⟩ = some (.slice A n c) ∧ W.cell? ⟨bx, 0, none⟩ = some vx :=
 ⟨h.a.cells 0, h.x0.cells 0⟩
theorem StA.markX {px' : Pg} (h : StA w n c A bx vw vx vg Lw Hw Lx Hx Lg Hg qw px qg W) (b : Chg (fun k => Lx ≤ k ∧ k < Hx) W W') (o' : OwnH W' Lx Hx vx px') : StA w n c A bx vw vx vg Lw Hw Lx Hx Lg Hg qw px' qg W' := by
 have o := h.ord
 have s := b.size
 have s0 := h.below.size
 exact ⟨h.below.trans (b.below (by omega) (fun x hx hc => by omega)), h.a.chg b (fun hc => by omega), h.x0.chg b (fun hc => by omega),
  h.ow.chg b (by omega) (fun k h1 h2 hc => by omega), o', h.og.chg b (by omega) (fun k h1 h2 hc => by omega), by omega⟩
theorem StA.markG {qg' : List Pr} (h : StA w n c A bx vw vx vg Lw Hw Lx Hx Lg Hg qw px qg W) (b : Chg (fun k => vg.ownBlock = some k) W W') (o' : OwnA W' Lg vg qg') : StA w n c A bx vw vx vg Lw Hw Lx Hx Lg Hg qw px qg' W' := by
 have o := h.ord
 have s := b.size
 have s0 := h.below.size
 have hg : ∀ k, vg.ownBlock = some k → Lg ≤ k ∧ k < Hg := fun k hk => ⟨(World.ownsRow.lt h.og.1 k hk).1, h.og.2 k hk⟩
 exact ⟨h.below.trans (b.below (by omega) (fun x hx hc => by have := hg x hc; omega)), h.a.chg b (fun hc => by have := hg _ hc; omega), h.x0.chg b (fun hc => by have := hg _ hc; omega),
  h.ow.chg b (by omega) (fun k h1 h2 hc => by have := hg k hc; omega), h.ox.chg b (by omega) (fun k h1 h2 hc => by have := hg k hc; omega), ⟨o', h.og.2⟩, by omega⟩
end
theorem tot_cnt (p : Pg) : cnt p ≤ Sz.tot p := by unfold cnt Sz.tot; omega
end Go.Proofs.Ythejnpignlhgiaa.LawA
