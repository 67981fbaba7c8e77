import Derived.Test.YthejnpignlhgiaaM2
import Derived.Deep.RegionWith
import Derived.OpenShut
import Derived.Deep.Slices
import Derived.Deep.Fields
import Derived.ChangeSame
import Derived.Carry
set_option linter.all false
namespace Go.Proofs.Ythejnpignlhgiaa.LiP
open Go.ChangeShapes Go.WideShapes Go.ChangeAt Go.RowKit Go.Deep
open Mem IntsP
def fit (z : Int) : Prop := -9223372036854775808 ≤ z ∧ z ≤ 9223372036854775807
def FitL (xs : List Int) : Prop := ∀ (j : Nat) (z : Int), xs[j]? = some z → fit z
theorem madeI (n : Nat) : (madeCells #[Value.int .i64 0] (n * 1)).toList = cellsI (List.replicate n 0) := by
 apply List.ext_getElem?
 intro i
 by_cases h : i < n
 ·simp [madeCells, cellsI, h, Nat.mod_one]
 ·simp [madeCells, cellsI, h]
theorem set_prefixI {α : Type} (xs : List α) (z s : α) (k n : Nat) (hn : xs.length = n) (hs : xs[k]? = some s) :
  (xs.take k ++ List.replicate (n - k) z).set k s = xs.take (k + 1) ++ List.replicate (n - (k + 1)) z := by
 have hk : k < xs.length := (List.getElem?_eq_some_iff.1 hs).1
 have hl : (xs.take k).length = k := by simp; omega
 rw [List.set_append_right _ _ (by omega), hl, Nat.sub_self, show n - k = n - (k + 1) + 1 by omega, List.replicate_succ, List.set_cons_zero, List.take_add_one, hs]
 simp
theorem toIntS_any (B : Nat) (A : Option Addr) (n c : Nat) (xs : List Int) (hn : n ≤ 2000000) (hl : xs.length = n) (w : World) (hr : RdI w B A xs) (hB : B ≤ w.heap.size) :
  Calls Try.prog 64 #[.slice A n c] w fun e w' => e = .returned (.slice (some ⟨w.heap.size, 0, none⟩) n n) ∧
   w'.ownsRow w.heap.size 3 1 (.slice (some ⟨w.heap.size, 0, none⟩) n n) n (cellsI xs) ∧ Below w.heap.size w w' := by
 obtain ⟨i0, hi, hz0, hz1, hz2⟩ := info_parts info3
 have hmk := fun W => run_make_rowN (P := Try.prog) 26 3 i0 _ Try.underlying26 hi hz0 .i64 .i64 n n (Nat.le_refl _) (by rw [hz2]; omega) (by omega) W
 have hR := Lib.hid hr
 have hL := Lib.hid hl
 clear hi hz0 hz2 hr hl
 rw [hz1] at hmk
 go_enter Try.func64, Try.ntmps64
 go_wp2
 go_loopw [4] (fun i wr => ∃ k : Nat, k ≤ n ∧ i = .int .i64 k ∧ wr.ownsRow w.heap.size 3 1 (.slice (some ⟨w.heap.size, 0, none⟩) n n) n (cellsI (xs.take k ++ List.replicate (n - k) 0)) ∧ Below w.heap.size w wr) (fun i _ => n - (intOf i).toNat)
 case atStart =>
  refine ⟨0, Nat.zero_le _, rfl, ?_, (Below.refl _ _).alloc (Nat.le_refl _) _⟩
  have := World.ownsRow_lit (base := w.heap.size) (e := 3) (size := 1) w (madeCells #[Value.int .i64 0] (n * 1)) n (Nat.le_refl _) (by unfold maxLen; omega) (size_madeCells _ _)
  rw [madeI] at this
  simpa using this
 case round =>
  obtain ⟨k, hk, rfl, hown, hb⟩ := hrel
  by_cases hlt : k < n
  ·obtain ⟨s, hs⟩ : ∃ s, xs[k]? = some s := ⟨_, List.getElem?_eq_getElem (by rw [hL.out]; exact hlt)⟩
   obtain ⟨ad, rfl, hab, h0⟩ := (hR.out.below (hb.mono hB)) k _ hs
   have hS := Lib.hid hs
   have hO := Lib.hid hown
   obtain ⟨u0, g0⟩ := own_cellI hown hlt
   have f := hown.frozenAt
   clear hs hown
   go_wp2
   go_roundw
   case rel =>
    refine ⟨k + 1, by omega, by go_num, ?_, ?_⟩
    ·rw [← set_prefixI xs 0 s k n hL.out hS.out]
     exact own_setI hO.out k s
    ·exact hb.setCell (p := ⟨w.heap.size, k, none⟩) (Nat.le_refl _) _
   case measure => simp [intOf]; omega
  ·obtain rfl : k = n := by omega
   have hO := Lib.hid hown
   clear hown
   go_wp2
   go_ret
   refine ⟨rfl, ?_, hb⟩
   have := hO.out
   rwa [List.take_of_length_le (by rw [hL.out]; omega), Nat.sub_self, List.replicate_zero, List.append_nil] at this
section
variable {H : Type} {enc : TypeId × Value → H} {w : World} {base : Nat} {spare : Nat → Bool} {held : Bool}
set_option maxRecDepth 100000 in
theorem int_of {fuel : Nat} {cs : List Value} {x : DataW H × List MemPlace} (h : DataW.trod enc Try.prog w base spare held fuel 3 cs = some x) : ∃ z, cs = [.int .i64 z] ∧ fit z := by
 obtain ⟨z, h1, _, h3⟩ := DataW.trod_int Try.underlying3 h
 refine ⟨z, h1, ?_⟩
 simp only [Lit.wf, Bool.and_eq_true, decide_eq_true_eq] at h3
 exact ⟨h3.1, h3.2⟩
set_option maxRecDepth 100000 in
theorem ints_of {fuel : Nat} {cs : List Value} {x : DataW H × List MemPlace} (h : DataW.trod enc Try.prog w base spare held fuel 26 cs = some x) :
  ∃ A c xs, cs = [.slice A xs.length c] ∧ xs.length ≤ maxLen ∧ RdI w w.heap.size A xs ∧ ∀ (j : Nat) (z : Int), xs[j]? = some z → fit z := by
 rcases open_slice1 Try.underlying26 (by kernel_rfl) h with ⟨h0, _⟩ | ⟨a, len, cap, m, n, V, D, Pl, rfl, hb, hl, hm, hmm, _, hi⟩
 ·exact ⟨none, 0, [], h0, by simp, fun j s hs => by simp at hs, fun j s hs => by simp at hs⟩
 ·have hlm : len ≤ m := by rw [hmm]; split <;> omega
  obtain ⟨F, hF⟩ := choose_lt (α := Int) (n := len) (p := fun i z => fit z ∧ w.cell? (a.add i) = some (.int .i64 z)) (fun i hil => by
   obtain ⟨h1, h2⟩ := hi i (by omega)
   obtain ⟨z, e, hz⟩ := int_of h2
   have e' : V i = .int .i64 z := by simpa using e
   exact ⟨z, hz, by rw [h1, e']⟩)
  refine ⟨some a, cap, (List.range len).map F, by simp, by simp; omega, fun j s hs => ?_, fun j s hs => ?_⟩
  ·have hj : j < len := by have := (List.getElem?_eq_some_iff.1 hs).1; simpa using this
   obtain rfl : F j = s := by simpa [hj] using hs
   obtain ⟨_, g0⟩ := hF j hj
   have hlt := World.block_lt_of_cell? w _ g0
   rw [block_of_add] at hlt
   exact ⟨a, rfl, hlt, g0⟩
  ·have hj : j < len := by have := (List.getElem?_eq_some_iff.1 hs).1; simpa using this
   obtain rfl : F j = s := by simpa [hj] using hs
   exact (hF j hj).1
set_option maxRecDepth 100000 in
theorem open_ints {r : Reach} {b0 : Nat} {v : Value} {d : DataW H} {ps : List MemPlace} (hv : Value.okWide Try.prog w r b0 26 v) (h : DataW.Trod enc Try.prog w base spare held 26 v d ps) :
  ∃ A c xs, v = .slice A xs.length c ∧ xs.length ≤ maxLen ∧ RdI w w.heap.size A xs ∧ FitL xs := by
 obtain ⟨a0, len0, cap0, rfl⟩ := okWide_slice Try.underlying26 hv
 obtain ⟨fuel, hf⟩ := h
 obtain ⟨A, c, xs, e, h1, h2, h3⟩ := ints_of hf
 have e1 : Value.slice a0 len0 cap0 = .slice A xs.length c := by simpa [Value.cells] using e
 exact ⟨A, c, xs, e1, h1, h2, h3⟩
end
def OwnIH (w : World) (lo hi : Nat) (v : Value) (xs : List Int) : Prop := OwnI w lo v xs ∧ ∀ k, v.ownBlock = some k → k < hi
theorem OwnIH.of {w : World} {lo : Nat} {v : Value} {xs : List Int} (h : OwnI w lo v xs) : OwnIH w lo w.heap.size v xs := ⟨h, fun k hk => (World.ownsRow.lt h k hk).2⟩
theorem OwnIH.keep {w w' : World} {lo hi : Nat} {v : Value} {xs : List Int} (h : OwnIH w lo hi v xs) (hk : ∀ b, lo ≤ b → b < hi → w'.heap[b]? = w.heap[b]?) : OwnIH w' lo hi v xs := by
 obtain ⟨⟨h1, h2⟩, hh⟩ := h
 refine ⟨⟨h1, ?_⟩, hh⟩
 rcases h2 with h0 | ⟨g, cap, cur, rfl, hB, hg, r⟩
 ·exact .inl h0
 ·exact .inr ⟨g, cap, cur, rfl, hB, by rw [hk g hB (hh g rfl)]; exact hg, r⟩
theorem OwnIH.below {w w' : World} {lo hi : Nat} {v : Value} {xs : List Int} (h : OwnIH w lo hi v xs) (hb : Below hi w w') : OwnIH w' lo hi v xs := h.keep fun b _ hb' => hb.block b hb'
theorem OwnIH.chg {C : Nat → Prop} {w w' : World} {lo hi : Nat} {v : Value} {xs : List Int} (h : OwnIH w lo hi v xs) (hb : Chg C w w') (hh : hi ≤ w.heap.size) (hC : ∀ k, lo ≤ k → k < hi → ¬ C k) : OwnIH w' lo hi v xs :=
 h.keep fun b h1 h2 => hb.block b (by omega) (hC b h1 h2)
structure StL (w : World) (vw vx vg : Value) (Lw Hw Lx Hx Lg Hg : Nat) (qw px qg : List Int) (W : World) : Prop where
 below : Below w.heap.size w W
 ow : OwnIH W Lw Hw vw qw
 ox : OwnIH W Lx Hx vx px
 og : OwnIH W Lg Hg vg qg
 ord : w.heap.size ≤ Lw ∧ Lw ≤ Hw ∧ Hw ≤ Lx ∧ Lx ≤ Hx ∧ Hx ≤ Lg ∧ Lg ≤ Hg ∧ Hg ≤ W.heap.size
section
variable {w : World} {vw vx vg : Value} {Lw Hw Lx Hx Lg Hg : Nat} {qw px qg : List Int} {W W' : World}
theorem StL.next (h : StL w vw vx vg Lw Hw Lx Hx Lg Hg qw px qg W) (b : Below W.heap.size W W') : StL w vw vx vg Lw Hw Lx Hx Lg Hg qw px qg W' := by
 have o := h.ord
 have s := b.size
 exact ⟨h.below.trans (b.mono h.below.size), h.ow.below (b.mono (by omega)), h.ox.below (b.mono (by omega)), h.og.below (b.mono (by omega)), by omega⟩
theorem StL.markX {px' : List Int} (h : StL w vw vx vg Lw Hw Lx Hx Lg Hg qw px qg W) (b : Chg (fun k => vx.ownBlock = some k) W W') (o' : OwnI W' Lx vx px') : StL w vw vx vg Lw Hw Lx Hx Lg Hg qw px' qg W' := by
 have o := h.ord
 have s := b.size
 have s0 := h.below.size
 have hg : ∀ k, vx.ownBlock = some k → Lx ≤ k ∧ k < Hx := fun k hk => ⟨(World.ownsRow.lt h.ox.1 k hk).1, h.ox.2 k hk⟩
 exact ⟨h.below.trans (b.below (by omega) (fun x hx hc => by have := hg x hc; omega)), h.ow.chg b (by omega) (fun k h1 h2 hc => by have := hg k hc; omega), ⟨o', h.ox.2⟩, h.og.chg b (by omega) (fun k h1 h2 hc => by have := hg k hc; omega), by omega⟩
theorem StL.markG {qg' : List Int} (h : StL w vw vx vg Lw Hw Lx Hx Lg Hg qw px qg W) (b : Chg (fun k => vg.ownBlock = some k) W W') (o' : OwnI W' Lg vg qg') : StL w vw vx vg Lw Hw Lx Hx Lg Hg qw px qg' W' := by
 have o := h.ord
 have s := b.size
 have s0 := h.below.size
 have hg : ∀ k, vg.ownBlock = some k → Lg ≤ k ∧ k < Hg := fun k hk => ⟨(World.ownsRow.lt h.og.1 k hk).1, h.og.2 k hk⟩
 exact ⟨h.below.trans (b.below (by omega) (fun x hx hc => by have := hg x hc; omega)), h.ow.chg b (by omega) (fun k h1 h2 hc => by have := hg k hc; omega), h.ox.chg b (by omega) (fun k h1 h2 hc => by have := hg k hc; omega), ⟨o', h.og.2⟩, by omega⟩
end
def IntsR (r : List Int × Bool) (w : World) (e : Ending) (w' : World) : Prop :=
 ∃ A c, e = .returned (.tuple #[.slice A r.1.length c, .bool r.2]) ∧ OwnI w' w.heap.size (.slice A r.1.length c) r.1 ∧ Below w.heap.size w w'
def NumR (r : Int × Bool) (w : World) (e : Ending) (w' : World) : Prop :=
 e = .returned (.tuple #[.int .i64 r.1, .bool r.2]) ∧ Below w.heap.size w w'
def BoolR (r : Bool × Bool) (w : World) (e : Ending) (w' : World) : Prop :=
 e = .returned (.tuple #[.bool r.1, .bool r.2]) ∧ Below w.heap.size w w'
theorem laidOut : laidOutB Try.prog = true := by kernel_rfl
end Go.Proofs.Ythejnpignlhgiaa.LiP
-- squeezed
