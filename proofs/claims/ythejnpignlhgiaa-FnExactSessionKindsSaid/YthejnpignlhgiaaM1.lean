import Derived.Test.YthejnpignlhgiaaRows
import Derived.WalkKit
import Derived.ProofKit
import Derived.Lib.Hide
import Derived.WalkSpells
import Derived.WalkLawsBesides
import Derived.Deep.QuietTactic
import Derived.BigQuiet
import Derived.Outline
import Derived.Deep.AppendLies
import Derived.Maps.AppendAt
import Derived.Deep.RegionHeld3
import Derived.Deep.RegionLaw
set_option linter.all false
namespace Go.Proofs.Ythejnpignlhgiaa.PL
abbrev Tr := Int × Int × Int
abbrev Pg := List (List Tr)
def isReg (r : Int) : Bool := decide (0 ≤ r) && decide (r ≤ 3)
def isNum (n : Int) : Bool := decide (-32768 ≤ n) && decide (n ≤ 32767)
def okStep (n : Nat) (s : Tr) : Bool :=
 if s.1 = 1 then isReg s.2.1 && isNum s.2.2
 else if s.1 = 2 then isReg s.2.1 && isReg s.2.2
 else if s.1 = 4 ∨ s.1 = 5 then decide (0 ≤ s.2.1) && decide (s.2.1 < n) && isReg s.2.2
 else if s.1 = 11 then decide (0 ≤ s.2.1) && decide (s.2.1 ≤ 8) && isReg s.2.2
 else if s.1 = 10 then decide (s.2.1 = 0) && decide (s.2.2 = 0)
 else if s.1 = 3 ∨ s.1 = 6 ∨ s.1 = 7 ∨ s.1 = 8 ∨ s.1 = 9 ∨ s.1 = 12 ∨ s.1 = 13 then isReg s.2.1 && decide (s.2.2 = 0)
 else false
def okBody (n : Nat) (b : List Tr) : Bool := decide (b.length ≤ 8) && b.all (okStep n)
def okProg (p : Pg) : Bool := decide (1 ≤ p.length) && decide (p.length ≤ 6) && p.all (okBody p.length)
end Go.Proofs.Ythejnpignlhgiaa.PL

namespace Go.Proofs.Ythejnpignlhgiaa.Mem
open Go.ChangeShapes Go.WideShapes Go.ChangeAt Go.RowKit
open PL
theorem block_of_add (a : Addr) (n : Nat) : (a.add n).block = a.block := by unfold Addr.add; split <;> rfl
theorem add_own (g k : Nat) : (⟨g, 0, none⟩ : Addr).add k = ⟨g, k, none⟩ := by unfold Addr.add; split <;> simp_all
theorem below_drewN {B : Nat} {a w : World} (h : Below B a w) (n : Nat) : Below B a (w.drewN n) := ⟨h.os, h.tape, h.output, h.size, h.block⟩
theorem below_undrew {B : Nat} {a w : World} (h : Below B a.drew w) : Below B a w := ⟨h.os, h.tape, h.output, h.size, h.block⟩
theorem below_undrewN {B : Nat} {a w : World} {n : Nat} (h : Below B (a.drewN n) w) : Below B a w := ⟨h.os, h.tape, h.output, h.size, h.block⟩
structure Chg (C : Nat → Prop) (w w' : World) : Prop where
 os : w'.os = w.os
 tape : w'.tape = w.tape
 output : w'.output = w.output
 size : w.heap.size ≤ w'.heap.size
 block : ∀ k, k < w.heap.size → ¬ C k → w'.heap[k]? = w.heap[k]?
theorem Chg.refl (C : Nat → Prop) (w : World) : Chg C w w := ⟨rfl, rfl, rfl, Nat.le_refl _, fun _ _ _ => rfl⟩
theorem Chg.trans {C D : Nat → Prop} {a b c : World} (h : Chg C a b) (k : Chg D b c) (hD : ∀ x, x < a.heap.size → D x → C x) : Chg C a c :=
 ⟨k.os.trans h.os, k.tape.trans h.tape, k.output.trans h.output, Nat.le_trans h.size k.size, fun i hi hn =>
  (k.block i (Nat.lt_of_lt_of_le hi h.size) (fun hd => hn (hD i hi hd))).trans (h.block i hi hn)⟩
theorem Chg.mono {C D : Nat → Prop} {a b : World} (h : Chg C a b) (hD : ∀ x, x < a.heap.size → C x → D x) : Chg D a b :=
 ⟨h.os, h.tape, h.output, h.size, fun i hi hn => h.block i hi (fun hc => hn (hD i hi hc))⟩
theorem Chg.of_below {C : Nat → Prop} {a b : World} (h : Below a.heap.size a b) : Chg C a b := ⟨h.os, h.tape, h.output, h.size, fun i hi _ => h.block i hi⟩
theorem Chg.below {B : Nat} {C : Nat → Prop} {a b : World} (h : Chg C a b) (hB : B ≤ a.heap.size) (hC : ∀ x, x < B → ¬ C x) : Below B a b :=
 ⟨h.os, h.tape, h.output, h.size, fun i hi => h.block i (by omega) (hC i hi)⟩
theorem Chg.of_grown {row : Option Nat} {a b : World} (h : a.grownBy b row) : Chg (fun k => some k = row) a b := ⟨h.os, h.tape, h.output, h.size, fun i hi hn => h.block i hi hn⟩
theorem Chg.alloc (C : Nat → Prop) (w : World) (o : Obj) : Chg C w (w.alloc o) := ⟨rfl, rfl, rfl, by simp, fun k hk _ => Below.heap_alloc _ _ _ hk⟩
theorem Chg.set (w : World) (p : Addr) (u : Value) : Chg (fun k => k = p.block) w (w.setCell p u) := ⟨rfl, rfl, rfl, by simp [World.setCell], fun k _ hn => Below.heap_setCell _ _ _ _ hn⟩
theorem Chg.drewN (C : Nat → Prop) (w : World) (n : Nat) : Chg C w (w.drewN n) := ⟨rfl, rfl, rfl, Nat.le_refl _, fun _ _ _ => rfl⟩
theorem Chg.drew (C : Nat → Prop) (w : World) : Chg C w w.drew := ⟨rfl, rfl, rfl, Nat.le_refl _, fun _ _ _ => rfl⟩
theorem Chg.cell {C : Nat → Prop} {w w' : World} (h : Chg C w w') {p : Addr} (hp : p.block < w.heap.size) (hn : ¬ C p.block) : w'.cell? p = w.cell? p := World.cell?_of_block (h.block _ hp hn)
theorem heap1_0 (w : World) (o : Obj) : (w.alloc o).heap[w.heap.size]? = some o := heap_alloc_new _ _
theorem heap2_0 (w : World) (o o' : Obj) : ((w.alloc o).alloc o').heap[w.heap.size]? = some o := (Below.heap_alloc (w.alloc o) o' w.heap.size (by simp)).trans (heap_alloc_new w o)
theorem heap2_1 (w : World) (o o' : Obj) : ((w.alloc o).alloc o').heap[w.heap.size + 1]? = some o' := (by have := heap_alloc_new (w.alloc o) o'; rwa [World.size_alloc] at this)
theorem heap3_0 (w : World) (o o' o2 : Obj) : (((w.alloc o).alloc o').alloc o2).heap[w.heap.size]? = some o := (Below.heap_alloc ((w.alloc o).alloc o') o2 w.heap.size (by simp; omega)).trans (heap2_0 w o o')
theorem heap3_1 (w : World) (o o' o2 : Obj) : (((w.alloc o).alloc o').alloc o2).heap[w.heap.size + 1]? = some o' := (Below.heap_alloc ((w.alloc o).alloc o') o2 (w.heap.size + 1) (by simp)).trans (heap2_1 w o o')
theorem heap3_2 (w : World) (o o' o2 : Obj) : (((w.alloc o).alloc o').alloc o2).heap[w.heap.size + 2]? = some o2 := (by have := heap_alloc_new ((w.alloc o).alloc o') o2; rwa [World.size_alloc, World.size_alloc] at this)
theorem Chg.put {C : Nat → Prop} {a w : World} (h : Chg C a w) (p : Addr) (u : Value) (hp : a.heap.size ≤ p.block ∨ C p.block) : Chg C a (w.setCell p u) :=
 h.trans (Chg.set w p u) (fun x hx hd => by
  obtain rfl : x = p.block := hd
  rcases hp with hp | hp
  ·omega
  ·exact hp)
theorem Chg.new {C : Nat → Prop} {a w : World} (h : Chg C a w) (o : Obj) : Chg C a (w.alloc o) := h.trans (Chg.alloc (fun _ => False) w o) (fun _ _ hd => hd.elim)
theorem own_far {w : World} {B e sz n : Nat} {v : Value} {xs : List Value} (h : w.ownsRow B e sz v n xs) (p : Addr) (u : Value) (hp : v.ownBlock ≠ some p.block) : (w.setCell p u).ownsRow B e sz v n xs :=
 ⟨h.1, h.2.imp id fun ⟨g, cap, cur, hv, hB, hg, r⟩ => ⟨g, cap, cur, hv, hB, by
  rw [Below.heap_setCell _ _ _ _ (fun e => hp (by rw [hv, ← e]; rfl))]; exact hg, r⟩⟩
def Blk (w : World) (g : Nat) (t : TypeId) (cs : Array Value) : Prop := w.heap[g]? = some (.cells cs t (0, 0))
theorem Blk.lt {w : World} {g : Nat} {t : TypeId} {cs : Array Value} (h : Blk w g t cs) : g < w.heap.size := (Array.getElem?_eq_some_iff.1 h).1
theorem Blk.cells {w : World} {g : Nat} {t : TypeId} {cs : Array Value} (h : Blk w g t cs) : ∀ o, w.cell? ⟨g, o, none⟩ = cs[o]? := fun o => cell_of_row w g o cs t (0, 0) h
theorem Blk.frozen {w : World} {g : Nat} {t : TypeId} {cs : Array Value} (h : Blk w g t cs) : ∀ o, w.frozen? ⟨g, o, none⟩ = false := fun o => frozen_of_row w g o cs t h
theorem Blk.chg {C : Nat → Prop} {w w' : World} {g : Nat} {t : TypeId} {cs : Array Value} (h : Blk w g t cs) (hb : Chg C w w') (hC : ¬ C g) : Blk w' g t cs := (hb.block g h.lt hC).trans h
theorem Blk.below {B : Nat} {w w' : World} {g : Nat} {t : TypeId} {cs : Array Value} (h : Blk w g t cs) (hb : Below B w w') (hg : g < B) : Blk w' g t cs := (hb.block g hg).trans h
theorem Blk.far {w : World} {g : Nat} {t : TypeId} {cs : Array Value} (h : Blk w g t cs) (p : Addr) (u : Value) (hp : g ≠ p.block) : Blk (w.setCell p u) g t cs := (Below.heap_setCell w p u g hp).trans h
theorem Blk.alloc {w : World} {g : Nat} {t : TypeId} {cs : Array Value} (h : Blk w g t cs) (o : Obj) : Blk (w.alloc o) g t cs := (Below.heap_alloc w o g h.lt).trans h
theorem Blk.put {w : World} {g : Nat} {t : TypeId} {cs : Array Value} (h : Blk w g t cs) (i : Nat) (u : Value) : Blk (w.setCell ⟨g, i, none⟩ u) g t (cs.setIfInBounds i u) := heap_setCell_same w g i cs t u h
theorem Blk.set8 {w : World} {g : Nat} {t : TypeId} {a0 a1 a2 a3 a4 a5 a6 a7 : Value} (h : Blk w g t #[a0, a1, a2, a3, a4, a5, a6, a7]) (u0 u1 u2 u3 u4 u5 u6 u7 : Value) :
  Blk ((((((((w.setCell ⟨g, 0, none⟩ u0).setCell ⟨g, 1, none⟩ u1).setCell ⟨g, 2, none⟩ u2).setCell ⟨g, 3, none⟩ u3).setCell ⟨g, 4, none⟩ u4).setCell ⟨g, 5, none⟩ u5).setCell ⟨g, 6, none⟩ u6).setCell ⟨g, 7, none⟩ u7) g t #[u0, u1, u2, u3, u4, u5, u6, u7] :=
 by
 have := (((((((h.put 0 u0).put 1 u1).put 2 u2).put 3 u3).put 4 u4).put 5 u5).put 6 u6).put 7 u7
 simpa only [List.setIfInBounds_toArray, List.set_cons_zero, List.set_cons_succ] using this
theorem heap4_0 (w : World) (o0 o1 o2 o3 : Obj) : ((((w.alloc o0).alloc o1).alloc o2).alloc o3).heap[w.heap.size]? = some o0 := (Below.heap_alloc _ o3 w.heap.size (by simp <;> omega)).trans (heap3_0 w o0 o1 o2)
theorem heap4_1 (w : World) (o0 o1 o2 o3 : Obj) : ((((w.alloc o0).alloc o1).alloc o2).alloc o3).heap[w.heap.size + 1]? = some o1 := (Below.heap_alloc _ o3 (w.heap.size + 1) (by simp <;> omega)).trans (heap3_1 w o0 o1 o2)
theorem heap4_2 (w : World) (o0 o1 o2 o3 : Obj) : ((((w.alloc o0).alloc o1).alloc o2).alloc o3).heap[w.heap.size + 2]? = some o2 := (Below.heap_alloc _ o3 (w.heap.size + 2) (by simp <;> omega)).trans (heap3_2 w o0 o1 o2)
theorem heap4_3 (w : World) (o0 o1 o2 o3 : Obj) : ((((w.alloc o0).alloc o1).alloc o2).alloc o3).heap[w.heap.size + 3]? = some o3 := (by have := heap_alloc_new (((w.alloc o0).alloc o1).alloc o2) o3; rwa [World.size_alloc, World.size_alloc, World.size_alloc] at this)
theorem heap5_0 (w : World) (o0 o1 o2 o3 o4 : Obj) : (((((w.alloc o0).alloc o1).alloc o2).alloc o3).alloc o4).heap[w.heap.size]? = some o0 := (Below.heap_alloc _ o4 w.heap.size (by simp <;> omega)).trans (heap4_0 w o0 o1 o2 o3)
theorem heap5_1 (w : World) (o0 o1 o2 o3 o4 : Obj) : (((((w.alloc o0).alloc o1).alloc o2).alloc o3).alloc o4).heap[w.heap.size + 1]? = some o1 := (Below.heap_alloc _ o4 (w.heap.size + 1) (by simp <;> omega)).trans (heap4_1 w o0 o1 o2 o3)
theorem heap5_3 (w : World) (o0 o1 o2 o3 o4 : Obj) : (((((w.alloc o0).alloc o1).alloc o2).alloc o3).alloc o4).heap[w.heap.size + 1 + 1 + 1]? = some o3 := (Below.heap_alloc _ o4 (w.heap.size + 3) (by simp <;> omega)).trans (heap4_3 w o0 o1 o2 o3)
theorem heap5_4 (w : World) (o0 o1 o2 o3 o4 : Obj) : (((((w.alloc o0).alloc o1).alloc o2).alloc o3).alloc o4).heap[w.heap.size + 1 + 1 + 1 + 1]? = some o4 := (by have := heap_alloc_new ((((w.alloc o0).alloc o1).alloc o2).alloc o3) o4; rwa [World.size_alloc, World.size_alloc, World.size_alloc, World.size_alloc] at this)
theorem cells_kept {w w' : World} {b : Nat} {cs : Array Value} {t : TypeId} (h : w'.heap[b]? = w.heap[b]?) (hb : w.heap[b]? = some (.cells cs t (0, 0))) :
  (∀ o, w'.cell? ⟨b, o, none⟩ = cs[o]?) ∧ ∀ o, w'.frozen? ⟨b, o, none⟩ = false :=
 ⟨fun o => cell_of_row w' b o cs t (0, 0) (h.trans hb), fun o => frozen_of_row w' b o cs t (h.trans hb)⟩
def c3 (s : Tr) : List Value := [.int .i64 s.1, .int .i64 s.2.1, .int .i64 s.2.2]
def cells3 (l : List Tr) : List Value := l.flatMap c3
theorem cells3_nil : cells3 [] = [] := rfl
theorem cells3_cons (s : Tr) (l : List Tr) : cells3 (s :: l) = .int .i64 s.1 :: .int .i64 s.2.1 :: .int .i64 s.2.2 :: cells3 l := rfl
theorem cells3_append (a b : List Tr) : cells3 (a ++ b) = cells3 a ++ cells3 b := by simp [cells3]
theorem cells3_length (l : List Tr) : (cells3 l).length = l.length * 3 := by
 induction l with
 | nil => rfl
 | cons s l ih => rw [cells3_cons]; simp only [List.length_cons, ih]; omega
theorem cells3_at : ∀ (l : List Tr) (j : Nat) (s : Tr), l[j]? = some s → (cells3 l)[j * 3]? = some (.int .i64 s.1) ∧ (cells3 l)[j * 3 + 1]? = some (.int .i64 s.2.1) ∧ (cells3 l)[j * 3 + 2]? = some (.int .i64 s.2.2)
 | [], j, s, h => by simp at h
 | a :: l, 0, s, h => by
  obtain rfl : a = s := by simpa using h
  exact ⟨rfl, rfl, rfl⟩
 | a :: l, j + 1, s, h => by
  have := cells3_at l j s (by simpa using h)
  rw [show (j + 1) * 3 = j * 3 + 3 by omega, cells3_cons]
  simpa [show j * 3 + 3 + 1 = j * 3 + 1 + 3 by omega, show j * 3 + 3 + 2 = j * 3 + 2 + 3 by omega] using this
theorem cells3_set : ∀ (l : List Tr) (j : Nat) (s : Tr), j < l.length →
  (((cells3 l).set (j * 3) (.int .i64 s.1)).set (j * 3 + 1) (.int .i64 s.2.1)).set (j * 3 + 2) (.int .i64 s.2.2) = cells3 (l.set j s)
 | [], j, s, h => by simp at h
 | a :: l, 0, s, _ => rfl
 | a :: l, j + 1, s, h => by
  have := cells3_set l j s (by simpa using h)
  have e : ∀ l, cells3 (a :: l) = c3 a ++ cells3 l := fun l => by simp [cells3]
  have e3 : (c3 a).length = 3 := rfl
  rw [e, List.set_cons_succ, e, ← this, List.set_append_right _ _ (by rw [e3]; omega), List.set_append_right _ _ (by rw [e3]; omega), List.set_append_right _ _ (by rw [e3]; omega), e3,
   show (j + 1) * 3 - 3 = j * 3 by omega, show (j + 1) * 3 + 1 - 3 = j * 3 + 1 by omega, show (j + 1) * 3 + 2 - 3 = j * 3 + 2 by omega]
theorem made3 (n : Nat) : (madeCells #[Value.int .i64 0, Value.int .i64 0, Value.int .i64 0] (n * 3)).toList = cells3 (List.replicate n (0, 0, 0)) := by
 apply List.ext_getElem?
 intro i
 by_cases h : i < n * 3
 ·obtain ⟨q, r, hr, rfl⟩ : ∃ q r, r < 3 ∧ i = q * 3 + r := ⟨i / 3, i % 3, by omega, by omega⟩
  have hj : (List.replicate n ((0, 0, 0) : Tr))[q]? = some (0, 0, 0) := by simp [List.getElem?_replicate]; omega
  obtain ⟨h0, h1, h2⟩ := cells3_at _ _ _ hj
  have hm : (madeCells #[Value.int .i64 0, Value.int .i64 0, Value.int .i64 0] (n * 3)).toList[q * 3 + r]? = some (.int .i64 0) := by
   have e : (q * 3 + r) % 3 = r := by omega
   have hr' : r = 0 ∨ r = 1 ∨ r = 2 := by omega
   rcases hr' with rfl | rfl | rfl <;> simp [madeCells] <;> exact ⟨_, List.getElem?_range h, by simp⟩
  rw [hm]
  match r, hr with
  | 0, _ => exact h0.symm
  | 1, _ => exact h1.symm
  | 2, _ => exact h2.symm
 ·rw [List.getElem?_eq_none (by simp [madeCells]; omega), List.getElem?_eq_none (by rw [cells3_length]; simp; omega)]
def Rd3 (w : World) (B : Nat) (A : Option Addr) (xs : List Tr) : Prop :=
 ∀ j s, xs[j]? = some s → ∃ ad, A = some ad ∧ ad.block < B ∧ w.cell? (ad.add (j * 3)) = some (.int .i64 s.1) ∧
  w.cell? ⟨(ad.add (j * 3)).block, (ad.add (j * 3)).off + 1, none⟩ = some (.int .i64 s.2.1) ∧ w.cell? ⟨(ad.add (j * 3)).block, (ad.add (j * 3)).off + 2, none⟩ = some (.int .i64 s.2.2)
theorem Rd3.keep {w w' : World} {B : Nat} {A : Option Addr} {xs : List Tr} (h : Rd3 w B A xs) (hk : ∀ p : Addr, p.block < B → w'.cell? p = w.cell? p) : Rd3 w' B A xs :=
 fun j s hs => by
  obtain ⟨ad, e, hb, h0, h1, h2⟩ := h j s hs
  exact ⟨ad, e, hb, (hk _ (by rw [block_of_add]; exact hb)).trans h0, (hk _ (by show (ad.add _).block < B; rw [block_of_add]; exact hb)).trans h1, (hk _ (by show (ad.add _).block < B; rw [block_of_add]; exact hb)).trans h2⟩
theorem Rd3.below {w w' : World} {B : Nat} {A : Option Addr} {xs : List Tr} (h : Rd3 w B A xs) (hb : Below B w w') : Rd3 w' B A xs := h.keep fun _ hp => hb.cell hp
theorem Rd3.more {w : World} {B B' : Nat} {A : Option Addr} {xs : List Tr} (h : Rd3 w B A xs) (hB : B ≤ B') : Rd3 w B' A xs :=
 fun j s hs => by
  obtain ⟨ad, e, hb, r⟩ := h j s hs
  exact ⟨ad, e, by omega, r⟩
def RdP (w : World) (B : Nat) (A : Option Addr) (p : Pg) : Prop :=
 ∀ i xs, p[i]? = some xs → ∃ ad Ai ci, A = some ad ∧ ad.block < B ∧ w.cell? (ad.add i) = some (.slice Ai xs.length ci) ∧ Rd3 w B Ai xs
theorem RdP.keep {w w' : World} {B : Nat} {A : Option Addr} {p : Pg} (h : RdP w B A p) (hk : ∀ p : Addr, p.block < B → w'.cell? p = w.cell? p) : RdP w' B A p :=
 fun i xs hx => by
  obtain ⟨ad, Ai, ci, e, hb, h0, h1⟩ := h i xs hx
  exact ⟨ad, Ai, ci, e, hb, (hk _ (by rw [block_of_add]; exact hb)).trans h0, h1.keep hk⟩
theorem RdP.below {w w' : World} {B : Nat} {A : Option Addr} {p : Pg} (h : RdP w B A p) (hb : Below B w w') : RdP w' B A p := h.keep fun _ hp => hb.cell hp
theorem RdP.more {w : World} {B B' : Nat} {A : Option Addr} {p : Pg} (h : RdP w B A p) (hB : B ≤ B') : RdP w B' A p :=
 fun i xs hx => by
  obtain ⟨ad, Ai, ci, e, hb, h0, h1⟩ := h i xs hx
  exact ⟨ad, Ai, ci, e, by omega, h0, h1.more hB⟩
def Small (p : Pg) (N : Nat) : Prop := ∀ (i : Nat) (xs : List Tr), p[i]? = some xs → xs.length ≤ N
theorem Small.mono {p : Pg} {N M : Nat} (h : Small p N) (hm : N ≤ M) : Small p M := fun i xs hx => Nat.le_trans (h i xs hx) hm
theorem own_form {w : World} {B e sz n : Nat} {v : Value} {xs : List Value} (h : w.ownsRow B e sz v n xs) : (n = 0 ∧ ∃ a cap, v = .slice a 0 cap) ∨ (0 < n ∧ ∃ g cap, v = .slice (some ⟨g, 0, none⟩) n cap ∧ B ≤ g ∧ g < w.heap.size) := by
 rcases h.2 with ⟨rfl, rfl⟩ | ⟨g, cap, cur, rfl, hb, hg, _⟩
 ·exact .inl ⟨rfl, _, _, rfl⟩
 ·rcases Nat.eq_zero_or_pos n with rfl | hn
  ·exact .inl ⟨rfl, _, _, rfl⟩
  ·exact .inr ⟨hn, g, cap, rfl, hb, (Array.getElem?_eq_some_iff.1 hg).1⟩
theorem own_slice {w : World} {B e sz n : Nat} {v : Value} {xs : List Value} (h : w.ownsRow B e sz v n xs) : ∃ A cap, v = .slice A n cap := by
 rcases own_form h with ⟨rfl, a, c, rfl⟩ | ⟨_, g, c, rfl, _⟩ <;> exact ⟨_, _, rfl⟩
theorem own_chg {C : Nat → Prop} {w w' : World} {B e sz n : Nat} {v : Value} {xs : List Value} (h : w.ownsRow B e sz v n xs) (hb : Chg C w w') (hC : ∀ k, v.ownBlock = some k → ¬ C k) : w'.ownsRow B e sz v n xs := by
 refine ⟨h.1, ?_⟩
 rcases h.2 with h0 | ⟨g, cap, cur, rfl, hB, hg, r⟩
 ·exact .inl h0
 ·exact .inr ⟨g, cap, cur, rfl, hB, by rw [hb.block g (Array.getElem?_eq_some_iff.1 hg).1 (hC g rfl)]; exact hg, r⟩
theorem own_below {w w' : World} {B B' e sz n : Nat} {v : Value} {xs : List Value} (h : w.ownsRow B e sz v n xs) (hb : Below B' w w') (hB : w.heap.size ≤ B') : w'.ownsRow B e sz v n xs := by
 refine ⟨h.1, ?_⟩
 rcases h.2 with h0 | ⟨g, cap, cur, hv, hB, hg, r⟩
 ·exact .inl h0
 ·exact .inr ⟨g, cap, cur, hv, hB, by rw [hb.block g (Nat.lt_of_lt_of_le (Array.getElem?_eq_some_iff.1 hg).1 (by assumption))]; exact hg, r⟩
theorem own_mono {w : World} {B B' e sz n : Nat} {v : Value} {xs : List Value} (h : w.ownsRow B e sz v n xs) (hb : B' ≤ B) : w.ownsRow B' e sz v n xs :=
 ⟨h.1, h.2.imp id fun ⟨g, cap, cur, h1, h2, h3⟩ => ⟨g, cap, cur, h1, Nat.le_trans hb h2, h3⟩⟩
theorem rd_own {w : World} {B n c e : Nat} {A : Option Addr} {xs : List Tr} (h : w.ownsRow B e 3 (.slice A n c) n (cells3 xs)) : Rd3 w w.heap.size A xs := by
 intro j s hs
 have hn : xs.length = n := by have := h.1; rw [cells3_length] at this; omega
 have hj : j < xs.length := (List.getElem?_eq_some_iff.1 hs).1
 rcases own_form h with ⟨h0, _⟩ | ⟨_, g, cap, hv, _, hg⟩
 ·omega
 ·simp only [Value.slice.injEq, true_and] at hv
  obtain ⟨rfl, rfl⟩ := hv
  obtain ⟨c0, c1, c2⟩ := cells3_at xs j s hs
  refine ⟨_, rfl, hg, ?_, ?_, ?_⟩ <;> rw [add_own]
  ·rw [h.cellAt _ (by omega)]; exact c0
  ·show w.cell? ⟨g, j * 3 + 1, none⟩ = _; rw [h.cellAt _ (by omega)]; exact c1
  ·show w.cell? ⟨g, j * 3 + 2, none⟩ = _; rw [h.cellAt _ (by omega)]; exact c2
def OwnP (w : World) (lo : Nat) (v : Value) (p : Pg) : Prop :=
 ∃ vals : List Value, vals.length = p.length ∧ w.ownsRow lo 136 1 v p.length vals ∧
  (∀ (i : Nat) (xs : List Tr), p[i]? = some xs → ∃ u, vals[i]? = some u ∧ w.ownsRow lo 139 3 u xs.length (cells3 xs)) ∧
  ∀ (i j : Nat) (u u' : Value) (k : Nat), vals[i]? = some u → vals[j]? = some u' → u.ownBlock = some k → u'.ownBlock = some k → i = j
theorem OwnP.form {w : World} {lo : Nat} {v : Value} {p : Pg} (h : OwnP w lo v p) : ∃ A c, v = .slice A p.length c := by
 obtain ⟨vals, _, ho, _⟩ := h
 exact own_slice ho
theorem OwnP.rd {w : World} {lo n c : Nat} {A : Option Addr} {p : Pg} (h : OwnP w lo (.slice A n c) p) : RdP w w.heap.size A p := by
 obtain ⟨vals, hl, ho, hr, _⟩ := h
 intro i xs hx
 have hi : i < p.length := (List.getElem?_eq_some_iff.1 hx).1
 obtain ⟨u, hu, hown⟩ := hr i xs hx
 obtain ⟨Ai, ci, rfl⟩ := own_slice hown
 rcases own_form ho with ⟨h0, _⟩ | ⟨_, g, cap, hv, _, hg⟩
 ·omega
 ·have hv' := hv
  simp only [Value.slice.injEq, true_and] at hv
  obtain ⟨rfl, _⟩ := hv
  rw [hv'] at ho
  refine ⟨_, Ai, ci, rfl, hg, ?_, rd_own hown⟩
  rw [add_own, ho.cellAt _ (by omega)]
  exact hu
theorem OwnP.chg {C : Nat → Prop} {w w' : World} {lo : Nat} {v : Value} {p : Pg} (h : OwnP w lo v p) (hb : Chg C w w') (hC : ∀ k, lo ≤ k → k < w.heap.size → ¬ C k) : OwnP w' lo v p := by
 obtain ⟨vals, hl, ho, hr, hd⟩ := h
 refine ⟨vals, hl, own_chg ho hb (fun k hk => hC k (ho.lt k hk).1 (ho.lt k hk).2), fun i xs hx => ?_, hd⟩
 obtain ⟨u, hu, hown⟩ := hr i xs hx
 exact ⟨u, hu, own_chg hown hb (fun k hk => hC k (hown.lt k hk).1 (hown.lt k hk).2)⟩
theorem OwnP.below {w w' : World} {lo : Nat} {v : Value} {p : Pg} (h : OwnP w lo v p) (hb : Below w.heap.size w w') : OwnP w' lo v p := h.chg (C := fun _ => False) (Chg.of_below hb) (fun _ _ _ hc => hc)
theorem OwnP.mono {w : World} {lo lo' : Nat} {v : Value} {p : Pg} (h : OwnP w lo v p) (hl : lo' ≤ lo) : OwnP w lo' v p := by
 obtain ⟨vals, hn, ho, hr, hd⟩ := h
 refine ⟨vals, hn, own_mono ho hl, fun i xs hx => ?_, hd⟩
 obtain ⟨u, hu, hou⟩ := hr i xs hx
 exact ⟨u, hu, own_mono hou hl⟩
theorem info3 : (Try.prog.info? 3).map (fun i => (i.zero, i.size, i.bytes)) = some (some (.int .i64 0), 1, 8) := by kernel_rfl
theorem infoStep : (Try.prog.info? 139).map (fun i => (i.zero, i.size, i.bytes)) = some (some (.agg #[.int .i64 0, .int .i64 0, .int .i64 0]), 3, 24) := by kernel_rfl
theorem infoSteps : (Try.prog.info? 136).map (fun i => (i.zero, i.size, i.bytes)) = some (some (.slice none 0 0), 1, 24) := by kernel_rfl
theorem run_make_rowN {P : Program} (t e : TypeId) (i : TypeInfo) (z : Value) (ht : P.underlying t = some (.slice e)) (hi : P.info? e = some i) (hz : i.zero = some z)
  (kl kc : IntKind) (n c : Nat) (hnc : n ≤ c) (hbytes : i.bytes * c ≤ 281474976710656) (h63 : c ≤ 9223372036854775807) (w : World) :
  (Instr.makeSlice t (.int kl (n : Int)) (.int kc (c : Int))).run P w = .ok (.slice (some ⟨w.heap.size, 0, none⟩) n c) (w.alloc (.cells (madeCells z.cells (c * i.size)) e)) := by
 have hb : (i.bytes : Int) * (c : Int) ≤ 281474976710656 := by
  have h : ((i.bytes * c : Nat) : Int) ≤ 281474976710656 := by omega
  rwa [Int.natCast_mul] at h
 have hr := run_make (P := P) w t e i z ht hi hz kl kc n c (by omega) (by omega) hb (by omega)
 simp only [Int.toNat_natCast] at hr
 exact hr
end Go.Proofs.Ythejnpignlhgiaa.Mem

namespace Go.Proofs.Ythejnpignlhgiaa.To
open Lib (hid)
open Go.ChangeShapes Go.WideShapes Go.ChangeAt Go.RowKit
open PL Mem
theorem toStep_any (k a b : Int) (w : World) :
  Calls Try.prog 121 #[.agg #[.int .i64 k, .int .i64 a, .int .i64 b]] w fun e w' => e = .returned (.agg #[.int .i64 k, .int .i64 a, .int .i64 b]) ∧ Below w.heap.size w w' := by
 go_enter Try.func121, Try.ntmps121
 go_wp2
 exact bodyPost_ret (v := .agg #[.int .i64 k, .int .i64 a, .int .i64 b]) (by simp [results, Try.results121, go_sem]) rfl ⟨rfl, (((Below.refl _ _).alloc (Nat.le_refl _) _).alloc (by simp) _).alloc (by simp; omega) _⟩
theorem own_cell3 {w : World} {B e n g c : Nat} {xs : List Tr} (h : w.ownsRow B e 3 (.slice (some ⟨g, 0, none⟩) n c) n (cells3 xs)) {j : Nat} (hj : j < n) :
  ∃ u0 u1 u2, w.cell? ⟨g, j * 3, none⟩ = some u0 ∧ w.cell? ⟨g, j * 3 + 1, none⟩ = some u1 ∧ w.cell? ⟨g, j * 3 + 2, none⟩ = some u2 := by
 have hn : xs.length = n := by have := h.1; rw [cells3_length] at this; omega
 obtain ⟨s, hs⟩ : ∃ s, xs[j]? = some s := ⟨_, List.getElem?_eq_getElem (by omega)⟩
 obtain ⟨c0, c1, c2⟩ := cells3_at xs j s hs
 exact ⟨_, _, _, (h.cellAt _ (by omega)).trans c0, (h.cellAt _ (by omega)).trans c1, (h.cellAt _ (by omega)).trans c2⟩
theorem own_set3 {w : World} {B e n g c : Nat} {xs : List Tr} (h : w.ownsRow B e 3 (.slice (some ⟨g, 0, none⟩) n c) n (cells3 xs)) {j : Nat} (hj : j < n) (s : Tr) :
  (((w.setCell ⟨g, j * 3, none⟩ (.int .i64 s.1)).setCell ⟨g, j * 3 + 1, none⟩ (.int .i64 s.2.1)).setCell ⟨g, j * 3 + 2, none⟩ (.int .i64 s.2.2)).ownsRow B e 3 (.slice (some ⟨g, 0, none⟩) n c) n (cells3 (xs.set j s)) := by
 have hn : xs.length = n := by have := h.1; rw [cells3_length] at this; omega
 have := (((h.stored (j * 3) (.int .i64 s.1)).1.stored (j * 3 + 1) (.int .i64 s.2.1)).1.stored (j * 3 + 2) (.int .i64 s.2.2)).1
 rwa [cells3_set xs j s (by omega)] at this
theorem set_prefix {α : Type} (xs : List α) (z s : α) (k n : Nat) (hn : xs.length = n) (hs : xs[k]? = some s) :
  (xs.take k ++ List.replicate (n - k) z).set k s = xs.take (k + 1) ++ List.replicate (n - (k + 1)) z := by
 have hk : k < xs.length := (List.getElem?_eq_some_iff.1 hs).1
 have hl : (xs.take k).length = k := by simp; omega
 rw [List.set_append_right _ _ (by omega), hl, Nat.sub_self, show n - k = n - (k + 1) + 1 by omega, List.replicate_succ, List.set_cons_zero, List.take_add_one, hs]
 simp
theorem toStepS_any (B : Nat) (A : Option Addr) (n c : Nat) (xs : List Tr) (hn : n ≤ 2000000) (hl : xs.length = n) (w : World) (hr : Rd3 w B A xs) (hB : B ≤ w.heap.size) :
  Calls Try.prog 99 #[.slice A n c] w fun e w' => e = .returned (.slice (some ⟨w.heap.size, 0, none⟩) n n) ∧
   w'.ownsRow w.heap.size 139 3 (.slice (some ⟨w.heap.size, 0, none⟩) n n) n (cells3 xs) ∧ Below w.heap.size w w' := by
 obtain ⟨i0, hi, hz0, hz1, hz2⟩ := info_parts infoStep
 have hmk := fun W => run_make_rowN (P := Try.prog) 136 139 i0 _ Try.underlying136 hi hz0 .i64 .i64 n n (Nat.le_refl _) (by rw [hz2]; omega) (by omega) W
 have hR := hid hr
 have hL := hid hl
 clear hi hz0 hz2 hr hl
 rw [hz1] at hmk
 go_enter Try.func99, Try.ntmps99
 go_wp2
 go_loopw [4] (fun i wr => ∃ k : Nat, k ≤ n ∧ i = .int .i64 k ∧ wr.ownsRow w.heap.size 139 3 (.slice (some ⟨w.heap.size, 0, none⟩) n n) n (cells3 (xs.take k ++ List.replicate (n - k) (0, 0, 0))) ∧ Below w.heap.size w wr) (fun i _ => n - (intOf i).toNat)
 case atStart =>
  refine ⟨0, Nat.zero_le _, rfl, ?_, (Below.refl _ _).alloc (Nat.le_refl _) _⟩
  have := World.ownsRow_lit (base := w.heap.size) (e := 139) (size := 3) w (madeCells #[Value.int .i64 0, Value.int .i64 0, Value.int .i64 0] (n * 3)) n (Nat.le_refl _) (by unfold maxLen; omega) (size_madeCells _ _)
  rw [made3] at this
  simpa using this
 case round =>
  obtain ⟨k, hk, rfl, hown, hb⟩ := hrel
  by_cases hlt : k < n
  ·obtain ⟨⟨s0, s1, s2⟩, hs⟩ : ∃ s, xs[k]? = some s := ⟨_, List.getElem?_eq_getElem (by rw [hL.out]; exact hlt)⟩
   obtain ⟨ad, rfl, hab, h0, h1, h2⟩ := (hR.out.below (hb.mono hB)) k _ hs
   have hS := hid hs
   have hO := hid hown
   have hsz := hb.size
   clear hs hown
   dsimp only at h0 h1 h2
   go_wp2_with (go_at_call 121; refine (toStep_any _ _ _ _).mono ?_; rintro e w1 ⟨rfl, hb1⟩; obtain ⟨u0, u1, u2, g0, g1, g2⟩ := own_cell3 (own_below hO.out hb1 (Nat.le_refl _)) hlt; have f := (own_below hO.out hb1 (Nat.le_refl _)).frozenAt)
   go_roundw
   case rel =>
    refine ⟨k + 1, by omega, by go_num, ?_, ?_⟩
    ·rw [← set_prefix xs (0, 0, 0) (s0, s1, s2) k n hL.out hS.out]
     exact own_set3 (own_below hO.out hb1 (Nat.le_refl _)) hlt (s0, s1, s2)
    ·exact (((hb.trans (hb1.mono hsz)).setCell (p := ⟨w.heap.size, k * 3, none⟩) (Nat.le_refl _) _).setCell (p := ⟨w.heap.size, k * 3 + 1, none⟩) (Nat.le_refl _) _).setCell (p := ⟨w.heap.size, k * 3 + 2, none⟩) (Nat.le_refl _) _
   case measure => simp [intOf]; omega
  ·obtain rfl : k = n := by omega
   have hO := hid hown
   clear hown
   go_wp2
   go_ret
   refine ⟨rfl, ?_, hb⟩
   have := hO.out
   rwa [List.take_of_length_le (by rw [hL.out]; omega), Nat.sub_self, List.replicate_zero, List.append_nil] at this
def RowsAt (w : World) (lo k : Nat) (vals : List Value) (p : Pg) : Prop :=
 vals.length = k ∧ (∀ (i : Nat) (xs : List Tr), i < k → p[i]? = some xs → ∃ u, vals[i]? = some u ∧ w.ownsRow lo 139 3 u xs.length (cells3 xs)) ∧
  (∀ (i : Nat) (u : Value) (h : Nat), vals[i]? = some u → u.ownBlock = some h → h < w.heap.size) ∧
  ∀ (i j : Nat) (u u' : Value) (h : Nat), vals[i]? = some u → vals[j]? = some u' → u.ownBlock = some h → u'.ownBlock = some h → i = j
theorem RowsAt.zero (w : World) (lo : Nat) (p : Pg) : RowsAt w lo 0 [] p := ⟨rfl, fun _ _ h => absurd h (by omega), fun i u h hu => by simp at hu, fun i j u u' h hu => by simp at hu⟩
theorem RowsAt.chg {C : Nat → Prop} {w w' : World} {lo k : Nat} {vals : List Value} {p : Pg} (h : RowsAt w lo k vals p) (hb : Chg C w w') (hC : ∀ x, lo ≤ x → x < w.heap.size → ¬ C x) : RowsAt w' lo k vals p := by
 obtain ⟨hl, hr, hs, hd⟩ := h
 refine ⟨hl, fun i xs hi hx => ?_, fun i u x hu hx => Nat.lt_of_lt_of_le (hs i u x hu hx) hb.size, hd⟩
 obtain ⟨u, hu, ho⟩ := hr i xs hi hx
 exact ⟨u, hu, own_chg ho hb (fun x hx => hC x (ho.lt x hx).1 (ho.lt x hx).2)⟩
theorem RowsAt.push {w w' : World} {lo k : Nat} {vals : List Value} {p : Pg} (h : RowsAt w lo k vals p) (hb : Below w.heap.size w w') {xs : List Tr} {u : Value} (hx : p[k]? = some xs)
  (ho : w'.ownsRow lo 139 3 u xs.length (cells3 xs)) (hn : ∀ x, u.ownBlock = some x → w.heap.size ≤ x) : RowsAt w' lo (k + 1) (vals ++ [u]) p := by
 obtain ⟨hl, hr, hs, hd⟩ := h
 have at_ : ∀ (i : Nat) (v : Value), (vals ++ [u])[i]? = some v → (i < k ∧ vals[i]? = some v) ∨ (i = k ∧ v = u) := by
  intro i v hv
  rcases Nat.lt_trichotomy i k with hi | hi | hi
  ·rw [List.getElem?_append_left (by omega)] at hv
   exact .inl ⟨hi, hv⟩
  ·subst hi
   rw [List.getElem?_append_right (by omega), hl, Nat.sub_self] at hv
   exact .inr ⟨rfl, by simpa using hv.symm⟩
  ·rw [List.getElem?_eq_none (by simp; omega)] at hv
   cases hv
 refine ⟨by simp [hl], fun i ys hi hy => ?_, fun i v x hv hvx => ?_, fun i j v v' x hv hv' hx1 hx2 => ?_⟩
 ·rcases Nat.lt_or_ge i k with hik | hik
  ·obtain ⟨v, hv, hov⟩ := hr i ys hik hy
   exact ⟨v, by rw [List.getElem?_append_left (by omega)]; exact hv, own_below hov hb (Nat.le_refl _)⟩
  ·obtain rfl : i = k := by omega
   rw [hx] at hy
   obtain rfl : xs = ys := by simpa using hy
   exact ⟨u, by rw [List.getElem?_append_right (by omega), hl, Nat.sub_self]; rfl, ho⟩
 ·rcases at_ i v hv with ⟨hi, h1⟩ | ⟨rfl, rfl⟩
  ·exact Nat.lt_of_lt_of_le (hs i v x h1 hvx) hb.size
  ·exact (ho.lt x hvx).2
 ·rcases at_ i v hv with ⟨hi, h1⟩ | ⟨rfl, rfl⟩ <;> rcases at_ j v' hv' with ⟨hj, h2⟩ | ⟨rfl, rfl⟩
  ·exact hd i j v v' x h1 h2 hx1 hx2
  ·have := hs i v x h1 hx1; have := hn x hx2; omega
  ·have := hs j v' x h2 hx2; have := hn x hx1; omega
  ·rfl
theorem RowsAt.own {w : World} {lo lo' : Nat} {v : Value} {vals : List Value} {p : Pg} (h : RowsAt w lo p.length vals p) (hlo : lo' ≤ lo) (ho : w.ownsRow lo' 136 1 v p.length vals) : OwnP w lo' v p := by
 obtain ⟨hl, hr, _, hd⟩ := h
 refine ⟨vals, hl, ho, fun i xs hx => ?_, hd⟩
 obtain ⟨u, hu, hou⟩ := hr i xs (List.getElem?_eq_some_iff.1 hx).1 hx
 exact ⟨u, hu, own_mono hou hlo⟩
theorem madeNil (n : Nat) : (madeCells #[Value.slice none 0 0] (n * 1)).toList = List.replicate n (.slice none 0 0) := by
 apply List.ext_getElem?
 intro i
 by_cases h : i < n
 ·simp [madeCells, h, Nat.mod_one]
 ·simp [madeCells, h]
theorem toStepSS_any (B : Nat) (A : Option Addr) (n c : Nat) (p : Pg) (hn : n ≤ 2000000) (hl : p.length = n) (hsm : Small p 2000000) (w : World) (hr : RdP w B A p) (hB : B ≤ w.heap.size) :
  Calls Try.prog 62 #[.slice A n c] w fun e w' => e = .returned (.slice (some ⟨w.heap.size, 0, none⟩) n n) ∧
   OwnP w' w.heap.size (.slice (some ⟨w.heap.size, 0, none⟩) n n) p ∧ Below w.heap.size w w' := by
 obtain ⟨i0, hi, hz0, hz1, hz2⟩ := info_parts infoSteps
 have hmk := fun W => run_make_rowN (P := Try.prog) 33 136 i0 _ Try.underlying33 hi hz0 .i64 .i64 n n (Nat.le_refl _) (by rw [hz2]; omega) (by omega) W
 have hR := hid hr
 have hL := hid hl
 have hS := hid hsm
 clear hi hz0 hz2 hr hl hsm
 rw [hz1] at hmk
 go_enter Try.func62, Try.ntmps62
 go_wp2
 go_loopw [4] (fun i wr => ∃ (k : Nat) (vals : List Value), k ≤ n ∧ i = .int .i64 k ∧ wr.ownsRow w.heap.size 136 1 (.slice (some ⟨w.heap.size, 0, none⟩) n n) n (vals ++ List.replicate (n - k) (.slice none 0 0)) ∧
   RowsAt wr (w.heap.size + 1) k vals p ∧ w.heap.size + 1 ≤ wr.heap.size ∧ Below w.heap.size w wr) (fun i _ => n - (intOf i).toNat)
 case atStart =>
  refine ⟨0, [], Nat.zero_le _, rfl, ?_, RowsAt.zero _ _ _, by simp, (Below.refl _ _).alloc (Nat.le_refl _) _⟩
  have := World.ownsRow_lit (base := w.heap.size) (e := 136) (size := 1) w (madeCells #[Value.slice none 0 0] (n * 1)) n (Nat.le_refl _) (by unfold maxLen; omega) (size_madeCells _ _)
  rw [madeNil] at this
  simpa using this
 case round =>
  obtain ⟨k, vals, hk, rfl, hown, hrows, hsz, hb⟩ := hrel
  by_cases hlt : k < n
  ·obtain ⟨xs, hs⟩ : ∃ s, p[k]? = some s := ⟨_, List.getElem?_eq_getElem (by rw [hL.out]; exact hlt)⟩
   obtain ⟨ad, Ai, ci, rfl, hab, h0, h1⟩ := (hR.out.below (hb.mono hB)) k _ hs
   have hH := hid hs
   have hO := hid hown
   have hW := hid hrows
   have hxn := hS.out k xs hs
   clear hs hown hrows
   go_wp2_with fail
   refine (toStepS_any B Ai xs.length ci xs hxn rfl _ h1 (by omega)).mono ?_
   rintro e w1 ⟨rfl, ho1, hb1⟩
   have c1 := ((own_below hO.out hb1 (Nat.le_refl _)).cellAt k (by omega))
   have f1 := (own_below hO.out hb1 (Nat.le_refl _)).frozenAt k
   have hget : (vals ++ List.replicate (n - k) (Value.slice none 0 0))[k]? = some (.slice none 0 0) := by
    rw [List.getElem?_append_right (by rw [hW.out.1]; omega), hW.out.1, Nat.sub_self, show n - k = n - (k + 1) + 1 by omega, List.replicate_succ]; rfl
   rw [hget] at c1
   have O1 := hid ho1
   clear ho1 hget
   go_wp2_with fail
   go_roundw
   case rel =>
    have hset : (vals ++ List.replicate (n - k) (Value.slice none 0 0)).set k (.slice (some ⟨wr.heap.size, 0, none⟩) xs.length xs.length) = (vals ++ [.slice (some ⟨wr.heap.size, 0, none⟩) xs.length xs.length]) ++ List.replicate (n - (k + 1)) (.slice none 0 0) := by
     rw [List.set_append_right _ _ (by rw [hW.out.1]; omega), hW.out.1, Nat.sub_self, show n - k = n - (k + 1) + 1 by omega, List.replicate_succ, List.set_cons_zero]; simp
    have st := ((own_below hO.out hb1 (Nat.le_refl _)).stored k (.slice (some ⟨wr.heap.size, 0, none⟩) xs.length xs.length)).1
    rw [hset] at st
    refine ⟨k + 1, _, by omega, by go_num, st, ?_, ?_, ?_⟩
    ·have := (hW.out.push hb1 hH.out (own_mono O1.out (by omega)) (fun x hx => by simp [Value.ownBlock] at hx; omega))
     exact this.chg (Chg.set _ _ _) (fun x hx _ => by show ¬ x = w.heap.size; omega)
    ·have := hb1.size; simp [World.setCell]; omega
    ·exact (hb.trans (hb1.mono (by omega))).setCell (p := ⟨w.heap.size, k, none⟩) (Nat.le_refl _) _
   case measure => simp [intOf]; omega
  ·obtain rfl : k = n := by omega
   have hO := hid hown
   have hW := hid hrows
   clear hown hrows
   go_wp2
   go_ret
   refine ⟨rfl, ?_, hb⟩
   have hO' := hO.out
   have hW' := hW.out
   rw [Nat.sub_self, List.replicate_zero, List.append_nil] at hO'
   rw [← hL.out] at hO' hW' ⊢
   exact hW'.own (by omega) hO'
theorem toProgram_any (B : Nat) (A : Option Addr) (n c : Nat) (p : Pg) (hn : n ≤ 2000000) (hl : p.length = n) (hsm : Small p 2000000) (w : World) (hr : RdP w B A p) (hB : B ≤ w.heap.size) :
  Calls Try.prog 18 #[.agg #[.slice A n c]] w fun e w' => ∃ g, e = .returned (.agg #[.slice (some ⟨g, 0, none⟩) n n]) ∧
   OwnP w' w.heap.size (.slice (some ⟨g, 0, none⟩) n n) p ∧ Below w.heap.size w w' := by
 have hR := hid hr
 have hL := hid hl
 have hS := hid hsm
 clear hr hl hsm
 go_enter Try.func18, Try.ntmps18
 go_wp2_with fail
 refine (toStepSS_any B A n c p hn hL.out hS.out _ ((hR.out.below (((Below.refl _ _).alloc hB _).alloc (by simp; omega) _)).below ((Below.refl _ _).alloc (by simp; omega) _)) (by simp; omega)).mono ?_
 rintro e w1 ⟨rfl, ho1, hb1⟩
 have O1 := hid ho1
 have s1 := hb1.size
 have c0 : w1.cell? ⟨w.heap.size + 1 + 1, 0, none⟩ = some (.slice none 0 0) := (hb1.cell (p := ⟨w.heap.size + 1 + 1, 0, none⟩) (by simp)).trans (by simp [go_sem])
 have f0 : w1.frozen? ⟨w.heap.size + 1 + 1, 0, none⟩ = false := (hb1.frozen (p := ⟨w.heap.size + 1 + 1, 0, none⟩) (by simp)).trans (by simp [go_sem])
 have c2 : w1.cell? ⟨w.heap.size + 1, 0, none⟩ = some (.slice none 0 0) := (hb1.cell (p := ⟨w.heap.size + 1, 0, none⟩) (by simp)).trans (by simp [go_sem])
 have f2 : w1.frozen? ⟨w.heap.size + 1, 0, none⟩ = false := (hb1.frozen (p := ⟨w.heap.size + 1, 0, none⟩) (by simp)).trans (by simp [go_sem])
 clear ho1
 go_wp2_with fail
 refine bodyPost_ret (v := .agg #[.slice (some ⟨w.heap.size + 1 + 1 + 1, 0, none⟩) n n]) (by simp [results, Try.results18, go_sem, c2]) rfl ⟨_, rfl, ?_, ?_⟩
 ·have o := O1.out
  simp only [World.size_alloc] at o
  exact ((o.chg (Chg.set _ ⟨w.heap.size + 1 + 1, 0, none⟩ _) (fun k hk _ => by show ¬ k = w.heap.size + 1 + 1; omega)).chg (Chg.set _ ⟨w.heap.size + 1, 0, none⟩ _) (fun k hk _ => by show ¬ k = w.heap.size + 1; omega)).mono (by omega)
 ·exact (((((Below.refl w.heap.size w).alloc (Nat.le_refl _) _).alloc (by simp) _).alloc (by simp; omega) _).trans (hb1.mono (by simp; omega))).setCell (p := ⟨w.heap.size + 1 + 1, 0, none⟩) (by show w.heap.size ≤ w.heap.size + 1 + 1; omega) _ |>.setCell (p := ⟨w.heap.size + 1, 0, none⟩) (by show w.heap.size ≤ w.heap.size + 1; omega) _
end Go.Proofs.Ythejnpignlhgiaa.To

namespace Go.Proofs.Ythejnpignlhgiaa.MarkP
open Lib (hid)
open Go.ChangeShapes Go.WideShapes Go.ChangeAt Go.RowKit
open PL Mem To
def mkTr (k : Int) : Tr := (k, k + 1, k + 1 + 1)
def marks (k : Int) (n : Nat) : List Tr := (List.range n).map (fun (i : Nat) => mkTr (k + 3 * i))
theorem marks_length (k : Int) (n : Nat) : (marks k n).length = n := by simp [marks]
theorem marks_at (k : Int) (n i : Nat) (h : i < n) : (marks k n)[i]? = some (mkTr (k + 3 * i)) := by simp [marks, h]
theorem marks_succ (k : Int) (n : Nat) : marks k (n + 1) = marks k n ++ [mkTr (k + 3 * n)] := by simp [marks, List.range_succ]
theorem marks_set (k : Int) (xs : List Tr) (i : Nat) (hi : i < xs.length) : (marks k i ++ xs.drop i).set i (mkTr (k + 3 * i)) = marks k (i + 1) ++ xs.drop (i + 1) := by
 rw [List.set_append_right _ _ (by rw [marks_length]; exact Nat.le_refl _), marks_length, Nat.sub_self, List.drop_eq_getElem_cons hi, List.set_cons_zero, marks_succ, List.append_assoc]
 rfl
def cnt (p : Pg) : Nat := (p.map List.length).sum
def markP (k : Int) : Pg → Pg
 | [] => []
 | xs :: p => marks k xs.length :: markP (k + 3 * xs.length) p
theorem markP_length : ∀ (k : Int) (p : Pg), (markP k p).length = p.length
 | _, [] => rfl
 | k, xs :: p => by simp [markP, markP_length _ p]
theorem markP_snoc : ∀ (k : Int) (p : Pg) (xs : List Tr), markP k (p ++ [xs]) = markP k p ++ [marks (k + 3 * cnt p) xs.length]
 | k, [], xs => by simp [markP, cnt]
 | k, ys :: p, xs => by
  rw [List.cons_append, markP, markP, List.cons_append, markP_snoc _ p xs]
  have : k + 3 * (ys.length : Int) + 3 * (cnt p : Int) = k + 3 * (cnt (ys :: p) : Int) := by simp [cnt]; omega
  rw [this]
theorem markP_at : ∀ (k : Int) (p : Pg) (i : Nat) (xs : List Tr), p[i]? = some xs → (markP k p)[i]? = some (marks (k + 3 * cnt (p.take i)) xs.length)
 | k, [], i, xs, h => by simp at h
 | k, ys :: p, 0, xs, h => by
  obtain rfl : ys = xs := by simpa using h
  simp [markP, cnt]
 | k, ys :: p, i + 1, xs, h => by
  have := markP_at (k + 3 * ys.length) p i xs (by simpa using h)
  have e : k + 3 * (ys.length : Int) + 3 * (cnt (p.take i) : Int) = k + 3 * (cnt ((ys :: p).take (i + 1)) : Int) := by simp [cnt]; omega
  rw [markP, List.getElem?_cons_succ, this, e]
theorem cnt_next (p : Pg) (i : Nat) (xs : List Tr) (h : p[i]? = some xs) : cnt (p.take (i + 1)) = cnt (p.take i) + xs.length := by
 unfold cnt
 rw [List.take_add_one, h]
 simp
theorem cnt_take (p : Pg) (i : Nat) : cnt (p.take i) ≤ cnt p := by
 unfold cnt
 have : (p.map List.length).sum = ((p.take i).map List.length).sum + ((p.drop i).map List.length).sum := by
  conv => lhs; rw [← List.take_append_drop i p]
  rw [List.map_append, List.sum_append]
 omega
theorem part_length (k : Int) (p : Pg) (i : Nat) (hi : i ≤ p.length) : (markP k (p.take i) ++ p.drop i).length = p.length := by
 rw [List.length_append, markP_length, List.length_take, List.length_drop]; omega
theorem part_at (k : Int) (p : Pg) (i : Nat) (xs : List Tr) (h : p[i]? = some xs) : (markP k (p.take i) ++ p.drop i)[i]? = some xs := by
 have hi := (List.getElem?_eq_some_iff.1 h).1
 rw [List.getElem?_append_right (by rw [markP_length, List.length_take]; omega), markP_length, List.length_take, Nat.min_eq_left (by omega), Nat.sub_self, List.getElem?_drop]
 simpa using h
theorem part_set (k : Int) (p : Pg) (i : Nat) (xs : List Tr) (h : p[i]? = some xs) : (markP k (p.take i) ++ p.drop i).set i (marks (k + 3 * cnt (p.take i)) xs.length) = markP k (p.take (i + 1)) ++ p.drop (i + 1) := by
 have hi := (List.getElem?_eq_some_iff.1 h).1
 have hl : (markP k (p.take i)).length = i := by rw [markP_length, List.length_take]; omega
 rw [List.set_append_right _ _ (by omega), hl, Nat.sub_self, List.drop_eq_getElem_cons hi, List.set_cons_zero, List.take_add_one, h, Option.toList_some, markP_snoc, List.append_assoc]
 rfl
def OwnH (w : World) (lo hi : Nat) (v : Value) (p : Pg) : Prop :=
 ∃ vals : List Value, vals.length = p.length ∧ w.ownsRow lo 136 1 v p.length vals ∧
  (∀ (i : Nat) (xs : List Tr), p[i]? = some xs → ∃ u, vals[i]? = some u ∧ w.ownsRow lo 139 3 u xs.length (cells3 xs)) ∧
  (∀ (i j : Nat) (u u' : Value) (k : Nat), vals[i]? = some u → vals[j]? = some u' → u.ownBlock = some k → u'.ownBlock = some k → i = j) ∧
  (∀ k, v.ownBlock = some k → k < hi) ∧ ∀ (i : Nat) (u : Value) (k : Nat), vals[i]? = some u → u.ownBlock = some k → k < hi
theorem OwnH.own {w : World} {lo hi : Nat} {v : Value} {p : Pg} (h : OwnH w lo hi v p) : OwnP w lo v p := by
 obtain ⟨vals, a, b, c, d, _⟩ := h
 exact ⟨vals, a, b, c, d⟩
theorem OwnH.of {w : World} {lo : Nat} {v : Value} {p : Pg} (h : OwnP w lo v p) : OwnH w lo w.heap.size v p := by
 obtain ⟨vals, a, b, c, d⟩ := h
 refine ⟨vals, a, b, c, d, fun k hk => (b.lt k hk).2, fun i u k hu hk => ?_⟩
 have hi : i < p.length := by have := (List.getElem?_eq_some_iff.1 hu).1; omega
 obtain ⟨u', hu', ho⟩ := c i _ (List.getElem?_eq_getElem hi)
 obtain rfl : u = u' := by rw [hu] at hu'; simpa using hu'
 exact (ho.lt k hk).2
theorem OwnH.keep {w w' : World} {lo hi : Nat} {v : Value} {p : Pg} (h : OwnH w lo hi v p) (hk : ∀ b, lo ≤ b → b < hi → w'.heap[b]? = w.heap[b]?) : OwnH w' lo hi v p := by
 obtain ⟨vals, a, b, c, d, e, f⟩ := h
 have key : ∀ {t sz n : Nat} {u : Value} {xs : List Value}, w.ownsRow lo t sz u n xs → (∀ k, u.ownBlock = some k → k < hi) → w'.ownsRow lo t sz u n xs := by
  intro t sz n u xs ho hh
  refine ⟨ho.1, ?_⟩
  rcases ho.2 with h0 | ⟨g, cap, cur, rfl, hB, hg, r⟩
  ·exact .inl h0
  ·exact .inr ⟨g, cap, cur, rfl, hB, by rw [hk g hB (hh g rfl)]; exact hg, r⟩
 refine ⟨vals, a, key b e, fun i xs hx => ?_, d, e, f⟩
 obtain ⟨u, hu, ho⟩ := c i xs hx
 exact ⟨u, hu, key ho (f i u · hu)⟩
theorem OwnH.below {w w' : World} {lo hi : Nat} {v : Value} {p : Pg} (h : OwnH w lo hi v p) (hb : Below hi w w') : OwnH w' lo hi v p := h.keep fun b _ hb' => hb.block b hb'
theorem OwnH.chg {C : Nat → Prop} {w w' : World} {lo hi : Nat} {v : Value} {p : Pg} (h : OwnH w lo hi v p) (hb : Chg C w w') (hh : hi ≤ w.heap.size) (hC : ∀ k, lo ≤ k → k < hi → ¬ C k) : OwnH w' lo hi v p :=
 h.keep fun b h1 h2 => hb.block b (by omega) (hC b h1 h2)
theorem OwnH.row {w : World} {lo hi n c : Nat} {A : Option Addr} {q : Pg} {i : Nat} {xs : List Tr} (h : OwnH w lo hi (.slice A n c) q) (hx : q[i]? = some xs) :
  ∃ g Ai ci, A = some ⟨g, 0, none⟩ ∧ w.cell? ⟨g, i, none⟩ = some (.slice Ai xs.length ci) ∧ w.ownsRow lo 139 3 (.slice Ai xs.length ci) xs.length (cells3 xs) ∧
   (∀ k, (Value.slice Ai xs.length ci).ownBlock = some k → lo ≤ k ∧ k < hi) ∧
   ∀ (w' : World) (ys : List Tr), ys.length = xs.length → w'.ownsRow lo 139 3 (.slice Ai xs.length ci) xs.length (cells3 ys) →
    Chg (fun b => (Value.slice Ai xs.length ci).ownBlock = some b) w w' → OwnH w' lo hi (.slice A n c) (q.set i ys) := by
 obtain ⟨vals, hl, ho, hr, hd, he, hf⟩ := h
 have hi : i < q.length := (List.getElem?_eq_some_iff.1 hx).1
 obtain ⟨u, hu, hown⟩ := hr i xs hx
 obtain ⟨Ai, ci, rfl⟩ := own_slice hown
 rcases own_form ho with ⟨h0, _⟩ | ⟨_, g, cap, hv, _, hg⟩
 ·omega
 ·have hv' := hv
  simp only [Value.slice.injEq] at hv
  obtain ⟨rfl, rfl, rfl⟩ := hv
  have hoc := ho.cellAt (g := g) i (by omega)
  refine ⟨g, Ai, ci, rfl, hoc.trans hu, hown, fun k hk => ⟨(hown.lt k hk).1, hf i _ k hu hk⟩, fun w' ys hy hown' hch => ?_⟩
  have hne : ∀ k, (Value.slice (some ⟨g, 0, none⟩) q.length c).ownBlock = some k → ¬ (Value.slice Ai xs.length ci).ownBlock = some k := by
   intro k hk hk'
   rcases ho.2 with ⟨h1, _⟩ | ⟨g1, c1, cur1, h1, _, hh1, _⟩
   ·cases h1
   ·rcases hown.2 with ⟨h2, _⟩ | ⟨g2, c2, cur2, h2, _, hh2, _⟩
    ·rw [h2] at hk'; cases hk'
    ·rw [h1] at hk
     rw [h2] at hk'
     obtain rfl : g1 = k := by simpa [Value.ownBlock] using hk
     obtain rfl : g2 = g1 := by simpa [Value.ownBlock] using hk'
     rw [hh1] at hh2
     injection hh2 with hh2
     injection hh2 with _ ht
     exact absurd ht (by decide)
  refine ⟨vals, by simpa using hl, ?_, fun j zs hz => ?_, hd, he, hf⟩
  ·rw [List.length_set]
   exact own_chg ho hch hne
  ·by_cases hij : i = j
   ·subst hij
    obtain rfl : ys = zs := by simpa [hi] using hz
    rw [hy]
    exact ⟨_, hu, hown'⟩
   ·rw [List.getElem?_set_ne hij] at hz
    obtain ⟨u', hu', ho'⟩ := hr j zs hz
    exact ⟨u', hu', own_chg ho' hch (fun k hk hk' => hij (hd i j _ _ k hu hu' hk' hk))⟩
def MarkedS (B n c : Nat) (A : Option Addr) (k : Int) (w : World) (e : Ending) (w' : World) : Prop :=
 e = .returned (.int .i64 (k + 3 * n)) ∧ w'.ownsRow B 139 3 (.slice A n c) n (cells3 (marks k n)) ∧ Chg (fun b => (Value.slice A n c).ownBlock = some b) w w'
theorem markStepS_any (B n c : Nat) (A : Option Addr) (xs : List Tr) (k : Int) (hn : n ≤ 2000000) (hl : xs.length = n) (hk0 : 0 ≤ k) (hk : k ≤ 20000000000) (w : World)
  (ho : w.ownsRow B 139 3 (.slice A n c) n (cells3 xs)) :
  Calls Try.prog 108 #[.slice A n c, .int .i64 k] w (MarkedS B n c A k w) := by
 have hO0 := hid ho
 have hL := hid hl
 clear ho hl
 go_enter Try.func108, Try.ntmps108
 go_wp2
 go_loopw [1, 5] (fun v i wr => ∃ (j : Nat) (m : Int), j ≤ n ∧ i = .int .i64 j ∧ v = .int .i64 m ∧ 0 ≤ m ∧ m ≤ 20000000000 + 3 * j ∧ Hid (m = k + 3 * j) ∧ wr.ownsRow B 139 3 (.slice A n c) n (cells3 (marks k j ++ xs.drop j)) ∧
   Chg (fun b => (Value.slice A n c).ownBlock = some b) w wr) (fun _ i _ => n - (intOf i).toNat)
 case atStart => exact ⟨0, k, Nat.zero_le _, rfl, rfl, hk0, by omega, hid (by omega), by simpa [marks] using hO0.out, Chg.refl _ _⟩
 case round =>
  obtain ⟨j, m, hj, rfl, rfl, m0, m1, hM, hown, hch⟩ := hrel
  have m2 : m ≤ 27000000000 := by omega
  by_cases hlt : j < n
  ·have hO := hid hown
   have hC := hid hch
   rcases own_form hown with ⟨h0, _⟩ | ⟨_, g, cap, hv, _, hg⟩
   ·omega
   ·simp only [Value.slice.injEq, true_and] at hv
    obtain ⟨rfl, rfl⟩ := hv
    obtain ⟨u0, u1, u2, g0, g1, g2⟩ := own_cell3 hown hlt
    have f := hown.frozenAt
    clear hown hch
    go_wp2
    go_roundw
    case rel =>
     refine ⟨j + 1, m + 1 + 1 + 1, by omega, by go_num, rfl, by omega, by omega, hid (by rw [hM.out]; omega), ?_, ?_⟩
     ·rw [← marks_set k xs j (by rw [hL.out]; exact hlt), ← hM.out]
      exact own_set3 hO.out hlt (mkTr m)
     ·refine Chg.put (Chg.put (Chg.put hC.out _ _ ?_) _ _ ?_) _ _ ?_ <;> exact .inr rfl
    case measure => simp [intOf]; omega
  ·obtain rfl : j = n := by omega
   have hO := hid hown
   have hC := hid hch
   clear hown hch
   go_wp2
   go_ret
   refine ⟨by rw [hM.out]; rfl, ?_, hC.out⟩
   have := hO.out
   rwa [List.drop_eq_nil_of_le (by rw [hL.out]; omega), List.append_nil] at this
def MarkedP (lo hi n c : Nat) (A : Option Addr) (p : Pg) (k : Int) (w : World) (e : Ending) (w' : World) : Prop :=
 e = .returned (.int .i64 (k + 3 * cnt p)) ∧ OwnH w' lo hi (.slice A n c) (markP k p) ∧ Chg (fun b => lo ≤ b ∧ b < hi) w w'
theorem markStepSS_any (lo hi n c : Nat) (A : Option Addr) (p : Pg) (k : Int) (hn : n ≤ 2000000) (hl : p.length = n) (hsm : Small p 2000000) (hk0 : 0 ≤ k) (hk : k + 3 * cnt p ≤ 20000000000) (w : World)
  (ho : OwnH w lo hi (.slice A n c) p) :
  Calls Try.prog 74 #[.slice A n c, .int .i64 k] w (MarkedP lo hi n c A p k w) := by
 have hO0 := hid ho
 have hL := hid hl
 have hS := hid hsm
 clear ho hl hsm
 go_enter Try.func74, Try.ntmps74
 go_wp2
 go_loopw [1, 5] (fun v i wr => ∃ (j : Nat) (m : Int), j ≤ n ∧ i = .int .i64 j ∧ v = .int .i64 m ∧ 0 ≤ m ∧ m ≤ 20000000000 ∧ Hid (m = k + 3 * cnt (p.take j)) ∧ OwnH wr lo hi (.slice A n c) (markP k (p.take j) ++ p.drop j) ∧
   Chg (fun b => lo ≤ b ∧ b < hi) w wr) (fun _ i _ => n - (intOf i).toNat)
 case atStart => exact ⟨0, k, Nat.zero_le _, rfl, rfl, hk0, by omega, hid (by simp [cnt]), by simpa [markP] using hO0.out, Chg.refl _ _⟩
 case round =>
  obtain ⟨j, m, hj, rfl, rfl, m0, m1, hM, hown, hch⟩ := hrel
  by_cases hlt : j < n
  ·obtain ⟨xs, hs⟩ : ∃ s, p[j]? = some s := ⟨_, List.getElem?_eq_getElem (by rw [hL.out]; exact hlt)⟩
   obtain ⟨g, Ai, ci, rfl, hc, hrow, hbd, hput⟩ := hown.row (part_at k p j xs hs)
   have hxn := hS.out j xs hs
   have hnx := cnt_next p j xs hs
   have hct := cnt_take p (j + 1)
   have m2 : m + 3 * xs.length ≤ 20000000000 := by have := hM.out; omega
   have HR := hid hrow
   have HP := hid hput
   have HB := hid hbd
   have HC := hid hch
   have HS := hid hs
   have HN := hid hnx
   clear hown hrow hput hbd hch hs hnx hct
   go_wp2_with fail
   refine (markStepS_any lo xs.length ci Ai xs m hxn rfl m0 m1 _ HR.out).mono ?_
   rintro e w1 ⟨rfl, o1, c1⟩
   have O1 := hid o1
   have C1 := hid c1
   clear o1 c1
   go_wp2_with fail
   go_roundw
   case rel =>
    refine ⟨j + 1, m + 3 * xs.length, by omega, by go_num, rfl, by omega, by omega, hid (by rw [hM.out, HN.out]; omega), ?_, ?_⟩
    ·rw [← part_set k p j xs HS.out, ← hM.out]
     exact HP.out _ _ (marks_length _ _) O1.out C1.out
    ·exact HC.out.trans C1.out (fun x _ hx => HB.out x hx)
   case measure => simp [intOf]; omega
  ·obtain rfl : j = n := by omega
   have hO := hid hown
   have hC := hid hch
   clear hown hch
   go_wp2
   go_ret
   have e1 : p.take j = p := List.take_of_length_le (by rw [hL.out]; omega)
   refine ⟨by rw [hM.out, e1]; rfl, ?_, hC.out⟩
   have := hO.out
   rwa [List.drop_eq_nil_of_le (by rw [hL.out]; omega), List.append_nil, e1] at this
theorem markProgram_any (lo hi n c : Nat) (A : Option Addr) (p : Pg) (k : Int) (hn : n ≤ 2000000) (hl : p.length = n) (hsm : Small p 2000000) (hk0 : 0 ≤ k) (hk : k + 3 * cnt p ≤ 20000000000) (w : World)
  (hh : hi ≤ w.heap.size) (ho : OwnH w lo hi (.slice A n c) p) :
  Calls Try.prog 28 #[.agg #[.slice A n c], .int .i64 k] w (MarkedP lo hi n c A p k w) := by
 have hO0 := hid ho
 have h1 : ∀ o : Obj, Below w.heap.size w (w.alloc o) := fun o => (Below.refl _ _).alloc (Nat.le_refl _) _
 have H1 := hid h1
 clear ho h1
 go_enter Try.func28, Try.ntmps28
 go_wp2_with fail
 refine (markStepSS_any lo hi n c A p k hn hl hsm hk0 hk _ (hO0.out.below ((H1.out _).mono hh))).mono ?_
 rintro e w1 ⟨rfl, o1, c1⟩
 go_wp2_with fail
 go_ret
 exact ⟨rfl, o1, (Chg.of_below (H1.out _)).trans c1 (fun _ _ h => h)⟩
end Go.Proofs.Ythejnpignlhgiaa.MarkP

namespace Go.Proofs.Ythejnpignlhgiaa.PL
structure M where
 spent : Bool
 shared : Int
 made : Int
 deep : Int
 trace : List Tr
 seen : List (Int × Int)
structure Fr where
 f : Int
 depth : Int
 r0 : Int
 r1 : Int
 r2 : Int
 r3 : Int
 defers : List (Int × Int)
 kind : Int
 value : Int
 leaving : Bool
 deferred : Bool
 panicking : Bool
 panic : Int
 recovered : Bool
 outer : Int
def reg (c : Fr) (i : Int) : Int := if i = 0 then c.r0 else if i = 1 then c.r1 else if i = 2 then c.r2 else c.r3
def setReg (c : Fr) (i : Int) (v : Int) : Fr :=
 if i = 0 then { c with r0 := v } else if i = 1 then { c with r1 := v } else if i = 2 then { c with r2 := v } else { c with r3 := v }
def tell (m : M) (k f v : Int) : M := { m with trace := m.trace ++ [(k, f, v)] }
def wrap16 (n : Int) : Int := (n + 163840) % 65536 - 32768
def simple (m : M) (c : Fr) (s : Tr) : M × Fr :=
 if s.1 = 1 then (m, setReg c s.2.1 s.2.2)
 else if s.1 = 2 then (m, setReg c s.2.1 (wrap16 (reg c s.2.1 + reg c s.2.2)))
 else if s.1 = 3 then (tell m 4 c.f (reg c s.2.1), c)
 else if s.1 = 9 then (m, if c.deferred then { c with outer := reg c s.2.1 } else c)
 else if s.1 = 12 then ({ m with shared := reg c s.2.1 }, c)
 else if s.1 = 13 then (m, setReg c s.2.1 m.shared)
 else if s.1 = 7 then
  (if c.panicking && !c.recovered then (tell m 6 c.f c.panic, setReg (setReg { c with recovered := true } s.2.1 c.panic) 3 1)
   else (m, setReg (setReg c s.2.1 0) 3 0))
 else (m, c)
def newFrame (f : Int) (depth : Int) (arg : Int) : Fr :=
 {f := f, depth := depth, r0 := arg, r1 := 0, r2 := 0, r3 := 0, defers := [], kind := 0, value := 0, leaving := false, deferred := false, panicking := false, panic := 0, recovered := false, outer := 0 }
def innerEnd (c i : Fr) (a : Int) : Fr × Int :=
 if i.kind = 1 then ({ c with r2 := i.r1 }, a + 1)
 else if i.kind = 2 then ({ c with kind := 2, value := i.value, leaving := c.leaving || i.leaving }, -1)
 else if i.kind = 3 then ({ c with kind := 3, leaving := c.leaving || i.leaving }, -1)
 else ({ c with leaving := c.leaving || i.leaving }, -1)
abbrev Call := M → Fr → M × Fr
def mkCall (r : M × Fr) (c : Fr) (a : Int) : M × Fr × Int := (r.1, innerEnd c r.2 a)
def mk (inner : Call) (m : M) (c : Fr) (a : Int) (s : Tr) : M × Fr × Int :=
 if s.1 = 4 then mkCall (inner m (newFrame s.2.1 (c.depth + 1) (reg c s.2.2))) c a
 else if s.1 = 5 then (tell m 2 s.2.1 (reg c s.2.2), { c with defers := c.defers ++ [(s.2.1, reg c s.2.2)] }, a + 1)
 else if s.1 = 6 then (tell m 5 c.f (reg c s.2.1), { c with kind := 2, value := reg c s.2.1 }, -1)
 else if s.1 = 8 then (m, { c with r1 := reg c s.2.1 }, -1)
 else if s.1 = 10 then (m, { c with kind := 3, leaving := true }, -1)
 else if s.1 = 11 then (m, c, if reg c s.2.2 > 0 then s.2.1 else a + 1)
 else ((simple m c s).1, (simple m c s).2, a + 1)
def count (m : M) (f a : Int) : M := { m with made := m.made + 1, seen := m.seen ++ [(f, a)] }
def body (inner : Call) (b : List Tr) (fuel : Int) : Nat → M → Fr → Int → M × Fr
 | 0, m, c, _ => (m, c)
 | n + 1, m, c, a =>
  if 0 ≤ a then
   match b[a.toNat]? with
   | none => (m, c)
   | some s =>
    if m.made = fuel then ({ m with spent := true }, c)
    else
     match mk inner (count m c.f a) c a s with
     | (m', c', a') => if m'.spent then (m', c') else body inner b fuel n m' c' a'
  else (m, c)
def lastFrame (c : Fr) (d : Int × Int) : Fr :=
 {newFrame d.1 (c.depth + 1) d.2 with deferred := true, outer := c.r1, panicking := decide (c.kind = 2), panic := if c.kind = 2 then c.value else 0 }
def lastEnd (c i : Fr) : Fr :=
 {c with r1 := i.outer, leaving := c.leaving || i.leaving, kind := if i.kind = 2 then 2 else if i.kind = 3 then 3 else if i.recovered then (if c.leaving || i.leaving then 3 else 1) else c.kind, value := if i.kind = 2 then i.value else c.value }
def dropL (c : Fr) : Fr := { c with defers := c.defers.dropLast }
def dfr (inner : Call) : Nat → M → Fr → M × Fr
 | 0, m, c => (m, c)
 | n + 1, m, c =>
  match c.defers.getLast? with
  | none => (m, c)
  | some d =>
   match inner m (lastFrame c d) with
   | (m', i) => if m'.spent then (m', dropL c) else dfr inner n m' (lastEnd (dropL c) i)
def finish (m : M) (c : Fr) : M :=
 if c.kind = 1 then tell m 7 c.f c.r1 else if c.kind = 2 then tell m 8 c.f c.value else if c.kind = 3 then tell m 9 c.f 0 else m
def begin_ (m : M) (c : Fr) : M := tell { m with deep := if m.deep > c.depth then m.deep else c.depth } (if c.deferred then 3 else 1) c.f c.r0
def closeC (q : M × Fr) : M × Fr := if q.1.spent then q else (finish q.1 q.2, q.2)
def afterB (inner : Call) (r : M × Fr) : M × Fr := if r.1.spent then r else closeC (dfr inner r.2.defers.length r.1 r.2)
def call (p : Pg) (fuel : Int) : Nat → Call
 | 0 => fun m c => ({ m with spent := true }, c)
 | d + 1 => fun m c => afterB (call p fuel d) (body (call p fuel d) (p.getD c.f.toNat []) fuel (fuel.toNat + 1) (begin_ m c) { c with kind := 1 } 0)
def start : M := { spent := false, shared := 0, made := 0, deep := 0, trace := [], seen := [] }
def whole (p : Pg) (fuel : Int) (f arg : Int) : M × Fr := call p fuel 8 start (newFrame f 1 arg)
structure Out where
 kind : Int
 value : Int
 trace : List Tr
 spent : Int
def told (r : M × Fr) : Out :=
 {kind := if r.1.spent then 4 else r.2.kind, value := if r.1.spent then 0 else if r.2.kind = 1 then r.2.r1 else if r.2.kind = 2 then r.2.value else 0, trace := r.1.trace, spent := r.1.made }
def run (p : Pg) (fuel : Int) (f arg : Int) : Out := told (whole p fuel f arg)
def N16 (n : Int) : Prop := -32768 ≤ n ∧ n ≤ 32767
structure WfM (fuel : Int) (K : Int) (m : M) : Prop where
 made0 : 0 ≤ m.made
 made1 : m.made ≤ fuel
 fuel1 : fuel ≤ 200
 shared : N16 m.shared
 deep0 : 0 ≤ m.deep
 deep1 : m.deep ≤ 8
 seen : (m.seen.length : Int) = m.made
 pot : (m.trace.length : Int) + 3 * (fuel - m.made) ≤ K
structure WfF (N : Int) (c : Fr) : Prop where
 f0 : 0 ≤ c.f
 f1 : c.f < N
 r0 : N16 c.r0
 r1 : N16 c.r1
 r2 : N16 c.r2
 r3 : N16 c.r3
 defers : ∀ d ∈ c.defers, 0 ≤ d.1 ∧ d.1 < N ∧ N16 d.2
 kind0 : 0 ≤ c.kind
 kind1 : c.kind ≤ 3
 value : N16 c.value
 panic : N16 c.panic
 outer : N16 c.outer
theorem wrap16_N (n : Int) : N16 (wrap16 n) := by unfold wrap16 N16; omega
theorem N16_0 : N16 0 := by unfold N16; omega
theorem N16_1 : N16 1 := by unfold N16; omega
theorem reg_N {N : Int} {c : Fr} (h : WfF N c) (i : Int) : N16 (reg c i) := by
 unfold reg
 split
 ·exact h.r0
 ·split
  ·exact h.r1
  ·split
   ·exact h.r2
   ·exact h.r3
theorem setReg_wf {N : Int} {c : Fr} (h : WfF N c) (i v : Int) (hv : N16 v) : WfF N (setReg c i v) := by
 unfold setReg
 split
 ·exact { h with r0 := hv }
 ·split
  ·exact { h with r1 := hv }
  ·split
   ·exact { h with r2 := hv }
   ·exact { h with r3 := hv }
theorem setReg_defers (c : Fr) (i v : Int) : (setReg c i v).defers = c.defers := by unfold setReg; split <;> (try split) <;> (try split) <;> rfl
theorem setReg_depth (c : Fr) (i v : Int) : (setReg c i v).depth = c.depth := by unfold setReg; split <;> (try split) <;> (try split) <;> rfl
theorem setReg_kind (c : Fr) (i v : Int) : (setReg c i v).kind = c.kind := by unfold setReg; split <;> (try split) <;> (try split) <;> rfl
theorem setReg_f (c : Fr) (i v : Int) : (setReg c i v).f = c.f := by unfold setReg; split <;> (try split) <;> (try split) <;> rfl
theorem setReg_same (c : Fr) (i v : Int) : (setReg c i v).depth = c.depth ∧ (setReg c i v).f = c.f ∧ (setReg c i v).deferred = c.deferred ∧ (setReg c i v).panicking = c.panicking ∧ (setReg c i v).panic = c.panic := by
 unfold setReg; split <;> (try split) <;> (try split) <;> exact ⟨rfl, rfl, rfl, rfl, rfl⟩
def Same (c c' : Fr) : Prop := c'.depth = c.depth ∧ c'.f = c.f ∧ c'.deferred = c.deferred ∧ c'.panicking = c.panicking ∧ c'.panic = c.panic
theorem Same.refl (c : Fr) : Same c c := ⟨rfl, rfl, rfl, rfl, rfl⟩
theorem Same.trans {a b c : Fr} (h : Same a b) (k : Same b c) : Same a c := ⟨k.1.trans h.1, k.2.1.trans h.2.1, k.2.2.1.trans h.2.2.1, k.2.2.2.1.trans h.2.2.2.1, k.2.2.2.2.trans h.2.2.2.2⟩
structure Inv (N fuel K : Int) (m : M) (c : Fr) : Prop where
 m : WfM fuel (K - 2 * (c.defers.length : Int)) m
 c : WfF N c
theorem WfM.up {fuel K K' : Int} {m : M} (h : WfM fuel K m) (hk : K ≤ K') : WfM fuel K' m := { h with pot := by have := h.pot; omega }
theorem tell_wf {fuel K K' : Int} {m : M} (h : WfM fuel K m) (k f v : Int) (hk : K + 1 ≤ K') : WfM fuel K' (tell m k f v) :=
 {h with pot := by have := h.pot; simp [tell]; omega }
theorem count_wf {fuel K : Int} {m : M} (h : WfM fuel K m) (f a : Int) (hlt : m.made ≠ fuel) : WfM fuel (K - 3) (count m f a) :=
 {h with
  made0 := by have := h.made0; simp [count]; omega
  made1 := by have := h.made1; simp [count]; omega
  seen := by have := h.seen; simp [count]; omega
  pot := by have := h.pot; simp [count]; omega }
def Good (N fuel D : Int) (inner : Call) : Prop := ∀ (K : Int) (m : M) (c : Fr), Inv N fuel K m c → c.depth = D →
 WfM fuel (K + 2) (inner m c).1 ∧ WfF N (inner m c).2 ∧ Same c (inner m c).2 ∧ m.made ≤ (inner m c).1.made
theorem newFrame_wf {N : Int} (f d arg : Int) (h0 : 0 ≤ f) (h1 : f < N) (ha : N16 arg) : WfF N (newFrame f d arg) :=
 {f0 := h0, f1 := h1, r0 := ha, r1 := N16_0, r2 := N16_0, r3 := N16_0, defers := fun d hd => by simp [newFrame] at hd, kind0 := by simp [newFrame], kind1 := by simp [newFrame],
  value := N16_0, panic := N16_0, outer := N16_0 }
theorem isReg_iff {r : Int} (h : isReg r = true) : 0 ≤ r ∧ r ≤ 3 := by unfold isReg at h; simpa using h
theorem isNum_iff {r : Int} (h : isNum r = true) : N16 r := by unfold isNum at h; simpa [N16] using h
theorem rec_wf {N : Int} {c : Fr} (h : WfF N c) (b : Bool) : WfF N { c with recovered := b } :=
 {f0 := h.f0, f1 := h.f1, r0 := h.r0, r1 := h.r1, r2 := h.r2, r3 := h.r3, defers := h.defers, kind0 := h.kind0, kind1 := h.kind1, value := h.value, panic := h.panic, outer := h.outer }
theorem simple_inv {N fuel K : Int} {m : M} {c : Fr} (h : Inv N fuel K m c) (s : Tr) (hs : s.1 = 1 → N16 s.2.2) :
  Inv N fuel (K + 1) (simple m c s).1 (simple m c s).2 ∧ Same c (simple m c s).2 ∧ (simple m c s).1.made = m.made := by
 have up : WfM fuel (K + 1 - 2 * (c.defers.length : Int)) m := h.m.up (by omega)
 unfold simple
 split
 ·rename_i e
  exact ⟨⟨by rw [setReg_defers]; exact up, setReg_wf h.c _ _ (hs e)⟩, setReg_same _ _ _, rfl⟩
 ·split
  ·exact ⟨⟨by rw [setReg_defers]; exact up, setReg_wf h.c _ _ (wrap16_N _)⟩, setReg_same _ _ _, rfl⟩
  ·split
   ·exact ⟨⟨tell_wf h.m _ _ _ (by show K - 2 * (c.defers.length : Int) + 1 ≤ K + 1 - 2 * (c.defers.length : Int); omega), h.c⟩, Same.refl _, rfl⟩
   ·split
    ·refine ⟨⟨?_, ?_⟩, ?_, rfl⟩
     ·split <;> exact up
     ·split
      ·exact { h.c with outer := reg_N h.c _ }
      ·exact h.c
     ·split <;> exact ⟨rfl, rfl, rfl, rfl, rfl⟩
    ·split
     ·exact ⟨⟨{ up with shared := reg_N h.c _ }, h.c⟩, Same.refl _, rfl⟩
     ·split
      ·exact ⟨⟨by rw [setReg_defers]; exact up, setReg_wf h.c _ _ h.m.shared⟩, setReg_same _ _ _, rfl⟩
      ·split
       ·split
        ·refine ⟨⟨?_, ?_⟩, ?_, rfl⟩
         ·show WfM fuel (K + 1 - 2 * ((setReg (setReg { c with recovered := true } s.2.1 c.panic) 3 1).defers.length : Int)) (tell m 6 c.f c.panic)
          rw [setReg_defers, setReg_defers]
          exact tell_wf h.m _ _ _ (by show K - 2 * (c.defers.length : Int) + 1 ≤ K + 1 - 2 * (c.defers.length : Int); omega)
         ·show WfF N (setReg (setReg { c with recovered := true } s.2.1 c.panic) 3 1)
          exact setReg_wf (setReg_wf (rec_wf h.c true) _ _ h.c.panic) _ _ N16_1
         ·exact Same.trans (Same.trans (b := { c with recovered := true }) ⟨rfl, rfl, rfl, rfl, rfl⟩ (setReg_same _ _ _)) (setReg_same _ _ _)
        ·refine ⟨⟨?_, ?_⟩, Same.trans (setReg_same _ _ _) (setReg_same _ _ _), rfl⟩
         ·show WfM fuel (K + 1 - 2 * ((setReg (setReg c s.2.1 0) 3 0).defers.length : Int)) m
          rw [setReg_defers, setReg_defers]
          exact up
         ·show WfF N (setReg (setReg c s.2.1 0) 3 0)
          exact setReg_wf (setReg_wf h.c _ _ N16_0) _ _ N16_0
       ·exact ⟨⟨up, h.c⟩, Same.refl _, rfl⟩
theorem innerEnd_inv {N fuel K : Int} {m' : M} {c i : Fr} (hm : WfM fuel (K - 2 * (c.defers.length : Int)) m') (hc : WfF N c) (hi : WfF N i) (a : Int) (ha : 0 ≤ a ∧ a ≤ 7) :
  Inv N fuel K m' (innerEnd c i a).1 ∧ Same c (innerEnd c i a).1 ∧ -1 ≤ (innerEnd c i a).2 ∧ (innerEnd c i a).2 ≤ 8 := by
 unfold innerEnd
 split
 ·exact ⟨⟨hm, { hc with r2 := hi.r1 }⟩, ⟨rfl, rfl, rfl, rfl, rfl⟩, by show -1 ≤ a + 1; omega, by show a + 1 ≤ 8; omega⟩
 ·split
  ·exact ⟨⟨hm, { hc with kind0 := (by show (0 : Int) ≤ 2; omega), kind1 := (by show (2 : Int) ≤ 3; omega), value := hi.value }⟩, ⟨rfl, rfl, rfl, rfl, rfl⟩, by show (-1 : Int) ≤ -1; omega, by show (-1 : Int) ≤ 8; omega⟩
  ·split
   ·exact ⟨⟨hm, { hc with kind0 := (by show (0 : Int) ≤ 3; omega), kind1 := (by show (3 : Int) ≤ 3; omega) }⟩, ⟨rfl, rfl, rfl, rfl, rfl⟩, by show (-1 : Int) ≤ -1; omega, by show (-1 : Int) ≤ 8; omega⟩
   ·exact ⟨⟨hm, { hc with }⟩, ⟨rfl, rfl, rfl, rfl, rfl⟩, by show (-1 : Int) ≤ -1; omega, by show (-1 : Int) ≤ 8; omega⟩
theorem mk_inv {n : Nat} {fuel K D : Int} {inner : Call} {m : M} {c : Fr} (hg : Good n fuel (D + 1) inner) (h : Inv n fuel (K - 3) m c) (hD : c.depth = D) (a : Int) (ha : 0 ≤ a ∧ a ≤ 7) (s : Tr) (hs : okStep n s = true) :
  Inv n fuel K (mk inner m c a s).1 (mk inner m c a s).2.1 ∧ Same c (mk inner m c a s).2.1 ∧ m.made ≤ (mk inner m c a s).1.made ∧ -1 ≤ (mk inner m c a s).2.2 ∧ (mk inner m c a s).2.2 ≤ 8 := by
 have up : WfM fuel (K - 2 * (c.defers.length : Int)) m := h.m.up (by omega)
 unfold mk
 split
 ·rename_i e
  have hf : 0 ≤ s.2.1 ∧ s.2.1 < n := by
   unfold okStep at hs
   simp only [e] at hs
   simp at hs
   exact ⟨hs.1.1, hs.1.2⟩
  have hi := hg (K - 3 - 2 * (c.defers.length : Int)) m (newFrame s.2.1 (c.depth + 1) (reg c s.2.2)) ⟨by show WfM fuel (K - 3 - 2 * (c.defers.length : Int) - 2 * ((([] : List (Int × Int)).length : Nat) : Int)) m; simpa using h.m, newFrame_wf _ _ _ hf.1 hf.2 (reg_N h.c _)⟩ (by show c.depth + 1 = D + 1; omega)
  obtain ⟨g1, g2, _, g4⟩ := hi
  obtain ⟨k1, k2, k3, k4⟩ := innerEnd_inv (K := K) (g1.up (by omega)) h.c g2 a ha
  exact ⟨k1, k2, g4, k3, k4⟩
 ·split
  ·rename_i e
   have hf : 0 ≤ s.2.1 ∧ s.2.1 < n := by
    unfold okStep at hs
    simp only [e] at hs
    simp at hs
    exact ⟨hs.1.1, hs.1.2⟩
   refine ⟨⟨?_, { h.c with defers := fun d hd => ?_ }⟩, ⟨rfl, rfl, rfl, rfl, rfl⟩, Int.le_refl _, by show -1 ≤ a + 1; omega, by show a + 1 ≤ 8; omega⟩
   ·exact tell_wf h.m _ _ _ (by simp; omega)
   ·simp only [List.mem_append, List.mem_singleton] at hd
    rcases hd with hd | rfl
    ·exact h.c.defers d hd
    ·exact ⟨hf.1, hf.2, reg_N h.c _⟩
  ·split
   ·exact ⟨⟨tell_wf h.m _ _ _ (by show _ ≤ K - 2 * (c.defers.length : Int); omega), { h.c with kind0 := (by show (0 : Int) ≤ 2; omega), kind1 := (by show (2 : Int) ≤ 3; omega), value := reg_N h.c _ }⟩, ⟨rfl, rfl, rfl, rfl, rfl⟩, Int.le_refl _, by show (-1 : Int) ≤ -1; omega, by show (-1 : Int) ≤ 8; omega⟩
   ·split
    ·exact ⟨⟨up, { h.c with r1 := reg_N h.c _ }⟩, ⟨rfl, rfl, rfl, rfl, rfl⟩, Int.le_refl _, by show (-1 : Int) ≤ -1; omega, by show (-1 : Int) ≤ 8; omega⟩
    ·split
     ·exact ⟨⟨up, { h.c with kind0 := (by show (0 : Int) ≤ 3; omega), kind1 := (by show (3 : Int) ≤ 3; omega) }⟩, ⟨rfl, rfl, rfl, rfl, rfl⟩, Int.le_refl _, by show (-1 : Int) ≤ -1; omega, by show (-1 : Int) ≤ 8; omega⟩
     ·split
      ·rename_i e
       have hp : 0 ≤ s.2.1 ∧ s.2.1 ≤ 8 := by
        unfold okStep at hs
        simp only [e] at hs
        simp at hs
        exact ⟨hs.1.1, hs.1.2⟩
       refine ⟨⟨up, h.c⟩, Same.refl _, Int.le_refl _, ?_, ?_⟩
       ·show -1 ≤ (if reg c s.2.2 > 0 then s.2.1 else a + 1); split <;> omega
       ·show (if reg c s.2.2 > 0 then s.2.1 else a + 1) ≤ 8; split <;> omega
      ·have hn : s.1 = 1 → N16 s.2.2 := by
        intro e
        unfold okStep at hs
        simp only [e] at hs
        simp at hs
        exact isNum_iff hs.2
       obtain ⟨k1, k2, k3⟩ := simple_inv h s hn
       exact ⟨⟨k1.m.up (by show K - 3 + 1 - 2 * ((simple m c s).2.defers.length : Int) ≤ K - 2 * ((simple m c s).2.defers.length : Int); omega), k1.c⟩, k2, by rw [k3]; exact Int.le_refl _, by show -1 ≤ a + 1; omega, by show a + 1 ≤ 8; omega⟩
theorem okProg_body {p : Pg} (h : okProg p = true) {i : Nat} {b : List Tr} (hb : p[i]? = some b) : b.length ≤ 8 ∧ ∀ (j : Nat) (s : Tr), b[j]? = some s → okStep p.length s = true := by
 unfold okProg at h
 rw [Bool.and_eq_true, List.all_eq_true] at h
 have h1 := h.2 b (List.mem_of_getElem? hb)
 unfold okBody at h1
 rw [Bool.and_eq_true, decide_eq_true_eq, List.all_eq_true] at h1
 exact ⟨h1.1, fun j s hs => h1.2 s (List.mem_of_getElem? hs)⟩
theorem body_inv {n : Nat} {fuel D : Int} {inner : Call} (hg : Good n fuel (D + 1) inner) {b : List Tr} (hb8 : b.length ≤ 8) (hb : ∀ (j : Nat) (s : Tr), b[j]? = some s → okStep n s = true) :
  ∀ (k : Nat) (K : Int) (m : M) (c : Fr) (a : Int), Inv n fuel K m c → c.depth = D → Inv n fuel K (body inner b fuel k m c a).1 (body inner b fuel k m c a).2 ∧ Same c (body inner b fuel k m c a).2 ∧ m.made ≤ (body inner b fuel k m c a).1.made
 | 0, K, m, c, a, h, _ => ⟨h, Same.refl _, Int.le_refl _⟩
 | k + 1, K, m, c, a, h, hD => by
  unfold body
  split
  ·rename_i ha
   split
   ·exact ⟨h, Same.refl _, Int.le_refl _⟩
   ·rename_i s hs
    have hlt : a.toNat < b.length := (List.getElem?_eq_some_iff.1 hs).1
    split
    ·exact ⟨⟨{ h.m with }, h.c⟩, Same.refl _, Int.le_refl _⟩
    ·rename_i hne
     have hc : Inv n fuel (K - 3) (count m c.f a) c := ⟨(count_wf h.m c.f a hne).up (by omega), h.c⟩
     obtain ⟨g1, g2, g3, g4, g5⟩ := mk_inv hg hc hD a ⟨ha, by omega⟩ s (hb _ _ hs)
     have hm : m.made ≤ (count m c.f a).made := by show m.made ≤ m.made + 1; omega
     generalize mk inner (count m c.f a) c a s = r at *
     obtain ⟨m', c', a'⟩ := r
     dsimp only at g1 g2 g3 ⊢
     split
     ·exact ⟨g1, g2, Int.le_trans hm g3⟩
     ·obtain ⟨k1, k2, k3⟩ := body_inv hg hb8 hb k K m' c' a' g1 (by rw [g2.1]; exact hD)
      exact ⟨k1, g2.trans k2, Int.le_trans (Int.le_trans hm g3) k3⟩
  ·exact ⟨h, Same.refl _, Int.le_refl _⟩
theorem dropL_len {c : Fr} {d : Int × Int} (h : c.defers.getLast? = some d) : ((dropL c).defers.length : Int) = c.defers.length - 1 := by
 have hne : c.defers ≠ [] := by intro e; rw [e] at h; cases h
 have : 0 < c.defers.length := List.length_pos_iff.2 hne
 simp [dropL]; omega
theorem dropL_wf {N : Int} {c : Fr} (h : WfF N c) : WfF N (dropL c) := { h with defers := fun d hd => h.defers d (List.dropLast_subset _ hd) }
theorem lastEnd_wf {N : Int} {c i : Fr} (h : WfF N c) (hi : WfF N i) : WfF N (lastEnd c i) := by
 have k0 : ∀ x : Int, x = 2 ∨ x = 3 ∨ x = 1 ∨ x = c.kind → 0 ≤ x ∧ x ≤ 3 := by
  intro x hx
  have := h.kind0; have := h.kind1
  omega
 have hk : (lastEnd c i).kind = 2 ∨ (lastEnd c i).kind = 3 ∨ (lastEnd c i).kind = 1 ∨ (lastEnd c i).kind = c.kind := by
  unfold lastEnd
  dsimp only
  split
  ·exact .inl rfl
  ·split
   ·exact .inr (.inl rfl)
   ·split
    ·split
     ·exact .inr (.inl rfl)
     ·exact .inr (.inr (.inl rfl))
    ·exact .inr (.inr (.inr rfl))
 refine { h with r1 := hi.outer, kind0 := (k0 _ hk).1, kind1 := (k0 _ hk).2, value := ?_ }
 unfold lastEnd
 dsimp only
 split
 ·exact hi.value
 ·exact h.value
theorem lastFrame_wf {N : Int} {c : Fr} (h : WfF N c) {d : Int × Int} (hd : d ∈ c.defers) : WfF N (lastFrame c d) := by
 obtain ⟨d0, d1, d2⟩ := h.defers d hd
 refine { newFrame_wf d.1 (c.depth + 1) d.2 d0 d1 d2 with outer := h.r1, panic := ?_ }
 unfold lastFrame
 dsimp only
 split
 ·exact h.value
 ·exact N16_0
theorem dfr_inv {N fuel D : Int} {inner : Call} (hg : Good N fuel (D + 1) inner) :
  ∀ (k : Nat) (K : Int) (m : M) (c : Fr), Inv N fuel K m c → c.depth = D → Inv N fuel K (dfr inner k m c).1 (dfr inner k m c).2 ∧ Same c (dfr inner k m c).2 ∧ m.made ≤ (dfr inner k m c).1.made
 | 0, K, m, c, h, _ => ⟨h, Same.refl _, Int.le_refl _⟩
 | k + 1, K, m, c, h, hD => by
  unfold dfr
  split
  ·exact ⟨h, Same.refl _, Int.le_refl _⟩
  ·rename_i d hd
   have hmem : d ∈ c.defers := List.mem_of_getLast? hd
   have hlen := dropL_len hd
   obtain ⟨g1, g2, g3, g4⟩ := hg (K - 2 * (c.defers.length : Int)) m (lastFrame c d) ⟨by show WfM fuel (K - 2 * (c.defers.length : Int) - 2 * ((([] : List (Int × Int)).length : Nat) : Int)) m; simpa using h.m, lastFrame_wf h.c hmem⟩ (by show c.depth + 1 = D + 1; omega)
   generalize inner m (lastFrame c d) = r at *
   obtain ⟨m', i⟩ := r
   dsimp only at g1 g2 g3 g4 ⊢
   split
   ·exact ⟨⟨g1.up (by rw [hlen]; omega), dropL_wf h.c⟩, ⟨rfl, rfl, rfl, rfl, rfl⟩, g4⟩
   ·have hi : Inv N fuel K m' (lastEnd (dropL c) i) := ⟨g1.up (by show _ ≤ K - 2 * ((dropL c).defers.length : Int); rw [hlen]; omega), lastEnd_wf (dropL_wf h.c) g2⟩
    obtain ⟨k1, k2, k3⟩ := dfr_inv hg k K m' (lastEnd (dropL c) i) hi hD
    exact ⟨k1, Same.trans (b := lastEnd (dropL c) i) ⟨rfl, rfl, rfl, rfl, rfl⟩ k2, Int.le_trans g4 k3⟩
theorem finish_wf {fuel K K' : Int} {m : M} (h : WfM fuel K m) (c : Fr) (hk : K + 1 ≤ K') : WfM fuel K' (finish m c) ∧ (finish m c).made = m.made := by
 unfold finish
 split
 ·exact ⟨tell_wf h _ _ _ hk, rfl⟩
 ·split
  ·exact ⟨tell_wf h _ _ _ hk, rfl⟩
  ·split
   ·exact ⟨tell_wf h _ _ _ hk, rfl⟩
   ·exact ⟨h.up (by omega), rfl⟩
theorem begin_wf {N fuel K : Int} {m : M} {c : Fr} (h : Inv N fuel K m c) (h0 : 0 ≤ c.depth) (h8 : c.depth ≤ 8) : Inv N fuel (K + 1) (begin_ m c) { c with kind := 1 } := by
 refine ⟨?_, { h.c with kind0 := (by show (0 : Int) ≤ 1; omega), kind1 := (by show (1 : Int) ≤ 3; omega) }⟩
 show WfM fuel (K + 1 - 2 * (c.defers.length : Int)) (begin_ m c)
 have h1 : WfM fuel (K - 2 * (c.defers.length : Int)) { m with deep := if m.deep > c.depth then m.deep else c.depth } :=
  {h.m with deep0 := (by show 0 ≤ (if m.deep > c.depth then m.deep else c.depth); have := h.m.deep0; split <;> omega), deep1 := (by show (if m.deep > c.depth then m.deep else c.depth) ≤ 8; have := h.m.deep1; split <;> omega) }
 exact tell_wf h1 _ _ _ (by omega)
theorem call_good {p : Pg} (hp : okProg p = true) {fuel : Int} : ∀ d : Nat, d ≤ 8 → Good p.length fuel (9 - d) (call p fuel d)
 | 0, _ => fun K m c h _ => ⟨{ (h.m.up (by omega) : WfM fuel (K + 2) m) with }, h.c, Same.refl _, Int.le_refl _⟩
 | d + 1, hd => fun K m c h hD => by
  have hg : Good p.length fuel (8 - (d : Int) + 1) (call p fuel d) := by
   have := call_good hp (fuel := fuel) d (by omega)
   rwa [show (9 : Int) - d = 8 - d + 1 by omega] at this
  have hD' : c.depth = 8 - (d : Int) := by rw [hD]; omega
  have hi := begin_wf h (by omega) (by omega)
  have hmade : (begin_ m c).made = m.made := rfl
  have hbody : ∃ b, p[c.f.toNat]? = some b := ⟨_, List.getElem?_eq_getElem (by have := h.c.f0; have := h.c.f1; omega)⟩
  obtain ⟨b, hb⟩ := hbody
  have hgd : p.getD c.f.toNat [] = b := by rw [List.getD_eq_getElem?_getD, hb]; rfl
  obtain ⟨hb8, hbs⟩ := okProg_body hp hb
  show WfM fuel (K + 2) (afterB (call p fuel d) (body (call p fuel d) (p.getD c.f.toNat []) fuel (fuel.toNat + 1) (begin_ m c) { c with kind := 1 } 0)).1 ∧ WfF p.length (afterB (call p fuel d) (body (call p fuel d) (p.getD c.f.toNat []) fuel (fuel.toNat + 1) (begin_ m c) { c with kind := 1 } 0)).2 ∧
   Same c (afterB (call p fuel d) (body (call p fuel d) (p.getD c.f.toNat []) fuel (fuel.toNat + 1) (begin_ m c) { c with kind := 1 } 0)).2 ∧ m.made ≤ (afterB (call p fuel d) (body (call p fuel d) (p.getD c.f.toNat []) fuel (fuel.toNat + 1) (begin_ m c) { c with kind := 1 } 0)).1.made
  rw [hgd]
  obtain ⟨g1, g2, g3⟩ := body_inv hg hb8 hbs (fuel.toNat + 1) (K + 1) (begin_ m c) { c with kind := 1 } 0 hi hD'
  generalize body (call p fuel d) b fuel (fuel.toNat + 1) (begin_ m c) { c with kind := 1 } 0 = r at *
  have s1 : Same c r.2 := Same.trans (b := { c with kind := 1 }) ⟨rfl, rfl, rfl, rfl, rfl⟩ g2
  rw [hmade] at g3
  unfold afterB
  split
  ·exact ⟨g1.m.up (by omega), g1.c, s1, g3⟩
  ·obtain ⟨k1, k2, k3⟩ := dfr_inv hg r.2.defers.length (K + 1) r.1 r.2 g1 (by rw [s1.1]; exact hD')
   generalize dfr (call p fuel d) r.2.defers.length r.1 r.2 = q at *
   unfold closeC
   split
   ·exact ⟨k1.m.up (by omega), k1.c, s1.trans k2, Int.le_trans g3 k3⟩
   ·obtain ⟨f1, f2⟩ := finish_wf (K' := K + 2) k1.m q.2 (by omega)
    exact ⟨f1, k1.c, s1.trans k2, by show m.made ≤ (finish q.1 q.2).made; rw [f2]; exact Int.le_trans g3 k3⟩
end Go.Proofs.Ythejnpignlhgiaa.PL

namespace Go.Proofs.Ythejnpignlhgiaa.Srun
open Go.ChangeShapes Go.WideShapes Go.ChangeAt Go.RowKit
open PL Mem
def mval (vp : Value) (fuel : Int) (m : M) (tv sv : Value) : Value :=
 .agg #[vp, .int .i64 fuel, .bool m.spent, .int .i64 m.shared, .int .i64 m.made, .int .i64 m.deep, tv, sv]
def fval (c : Fr) (dv : Value) : Value :=
 .agg #[.int .i64 c.f, .int .i64 c.depth, .int .i64 c.r0, .int .i64 c.r1, .int .i64 c.r2, .int .i64 c.r3, dv, .int .i64 c.kind, .int .i64 c.value, .bool c.leaving, .bool c.deferred, .bool c.panicking, .int .i64 c.panic, .bool c.recovered, .int .i64 c.outer]
def c2 (s : Int × Int) : List Value := [.int .i64 s.1, .int .i64 s.2]
def cells2 (l : List (Int × Int)) : List Value := l.flatMap c2
theorem cells2_cons (s : Int × Int) (l : List (Int × Int)) : cells2 (s :: l) = .int .i64 s.1 :: .int .i64 s.2 :: cells2 l := rfl
theorem cells2_append (a b : List (Int × Int)) : cells2 (a ++ b) = cells2 a ++ cells2 b := by simp [cells2]
theorem cells2_length (l : List (Int × Int)) : (cells2 l).length = l.length * 2 := by
 induction l with
 | nil => rfl
 | cons s l ih => rw [cells2_cons]; simp only [List.length_cons, ih]; omega
theorem cells2_at : ∀ (l : List (Int × Int)) (j : Nat) (s : Int × Int), l[j]? = some s → (cells2 l)[j * 2]? = some (.int .i64 s.1) ∧ (cells2 l)[j * 2 + 1]? = some (.int .i64 s.2)
 | [], j, s, h => by simp at h
 | a :: l, 0, s, h => by
  obtain rfl : a = s := by simpa using h
  exact ⟨rfl, rfl⟩
 | a :: l, j + 1, s, h => by
  have := cells2_at l j s (by simpa using h)
  rw [show (j + 1) * 2 = j * 2 + 2 by omega, cells2_cons]
  simpa [show j * 2 + 2 + 1 = j * 2 + 1 + 2 by omega] using this
theorem infoEv : (Try.prog.info? 94).map (fun i => (i.zero, i.size, i.bytes)) = some (some (.agg #[.int .i64 0, .int .i64 0, .int .i64 0]), 3, 24) := by kernel_rfl
theorem infoP2 : (Try.prog.info? 177).map (fun i => (i.zero, i.size, i.bytes)) = some (some (.agg #[.int .i64 0, .int .i64 0]), 2, 16) := by kernel_rfl
def Tre (w : World) (lo : Nat) (v : Value) (l : List Tr) : Prop := w.ownsRow lo 94 3 v l.length (cells3 l)
def Prs (w : World) (lo : Nat) (v : Value) (l : List (Int × Int)) : Prop := w.ownsRow lo 177 2 v l.length (cells2 l)
theorem Tre.chg {C : Nat → Prop} {w w' : World} {lo : Nat} {v : Value} {l : List Tr} (h : Tre w lo v l) (hb : Chg C w w') (hC : ∀ k, v.ownBlock = some k → ¬ C k) : Tre w' lo v l := own_chg h hb hC
theorem Prs.chg {C : Nat → Prop} {w w' : World} {lo : Nat} {v : Value} {l : List (Int × Int)} (h : Prs w lo v l) (hb : Chg C w w') (hC : ∀ k, v.ownBlock = some k → ¬ C k) : Prs w' lo v l := own_chg h hb hC
theorem Prs.below {w w' : World} {lo : Nat} {v : Value} {l : List (Int × Int)} (h : Prs w lo v l) (hb : Below w.heap.size w w') : Prs w' lo v l := own_below h hb (Nat.le_refl _)
theorem Tre.below {w w' : World} {lo : Nat} {v : Value} {l : List Tr} (h : Tre w lo v l) (hb : Below w.heap.size w w') : Tre w' lo v l := own_below h hb (Nat.le_refl _)
theorem apart {w : World} {lo lo' n m sz sz' e e' : Nat} {v v' : Value} {l l' : List Value} (h : w.ownsRow lo e sz v n l) (h' : w.ownsRow lo' e' sz' v' m l') (hne : e ≠ e') : ∀ k, v.ownBlock = some k → v'.ownBlock ≠ some k := by
 intro k hk hk'
 rcases h.2 with ⟨rfl, _⟩ | ⟨g, cap, cur, rfl, _, hg, _⟩
 ·simp [Value.ownBlock] at hk
 ·rcases h'.2 with ⟨rfl, _⟩ | ⟨g', cap', cur', rfl, _, hg', _⟩
  ·simp [Value.ownBlock] at hk'
  ·simp [Value.ownBlock] at hk hk'
   subst hk
   subst hk'
   rw [hg] at hg'
   injection hg' with hg'
   injection hg' with _ ht
   exact hne ht
theorem wrap_any (n : Int) (h0 : -65536 ≤ n) (h1 : n ≤ 65536) (w : World) : Calls Try.prog 141 #[.int .i64 n] w fun e w' => e = .returned (.int .i64 (wrap16 n)) ∧ w = w' := by
 go_enter Try.func141, Try.ntmps141
 go_wp2_with fail
 go_ret
 exact ⟨congrArg (fun x => Ending.returned (.int .i64 x)) (show ((n + 32767 + 1 + 131072) % 65536 - 32767 - 1 : Int) = wrap16 n by unfold wrap16; omega), rfl⟩
def mx (a b : Int) : Int := if a > b then a else b
theorem most_any (a b : Int) (w : World) : Calls Try.prog 116 #[.int .i64 a, .int .i64 b] w fun e w' => e = .returned (.int .i64 (mx a b)) ∧ w = w' := by
 by_cases h : a > b
 ·have hs := Lib.hid (show mx a b = a from if_pos h)
  go_enter Try.func116, Try.ntmps116
  go_wp2_with fail
  go_ret
  exact ⟨by rw [hs.out]; rfl, rfl⟩
 ·have hs := Lib.hid (show mx a b = b from if_neg h)
  go_enter Try.func116, Try.ntmps116
  go_wp2_with fail
  go_ret
  exact ⟨by rw [hs.out]; rfl, rfl⟩
set_option maxRecDepth 100000 in
theorem tell_any (lo : Nat) (vp : Value) (fuel : Int) (m : M) (tv sv : Value) (k f v : Int) (hl : m.trace.length ≤ 100000) (w : World) (ht : Tre w lo tv m.trace) (hlo : lo ≤ w.heap.size) (hvp : ∃ A n c, vp = .slice A n c) (hsv : ∃ A n c, sv = .slice A n c) :
  Calls Try.prog 124 #[mval vp fuel m tv sv, .int .i64 k, .int .i64 f, .int .i64 v] w fun e w' => ∃ tv', e = .returned (mval vp fuel (tell m k f v) tv' sv) ∧ Tre w' lo tv' (tell m k f v).trace ∧ Chg (fun x => tv.ownBlock = some x) w w' ∧ (∀ x, tv'.ownBlock = some x → tv.ownBlock = some x ∨ w.heap.size ≤ x) := by
 obtain ⟨i0, hi, hz0, hz1, hz2⟩ := info_parts infoEv
 obtain ⟨Ap, np, cp, rfl⟩ := hvp
 obtain ⟨As, ns, cs, rfl⟩ := hsv
 obtain ⟨At, ct, rfl⟩ := own_slice ht
 have hT := Lib.hid ht
 clear ht
 have hne : (Value.slice At m.trace.length ct).ownBlock ≠ some w.heap.size ∧ (Value.slice At m.trace.length ct).ownBlock ≠ some (w.heap.size + 1) :=
  ⟨fun e => by have := (hT.out.lt _ e).2; omega, fun e => by have := (hT.out.lt _ e).2; omega⟩
 unfold mval
 go_enter Try.func124, Try.ntmps124
 go_wp2_with (at_builtin; refine wpList_append_lies _ rfl _ _ 54 rfl lo 94 i0 _ 3 24 Try.underlying54 hi hz0 hz1 hz2 rfl (by decide) _ _ _ rfl (((hT.out.alloc _).alloc _).alloc _) ⟨w.heap.size + 1 + 1, 0, none⟩ 1 1 [.int .i64 k, .int .i64 f, .int .i64 v] rfl rfl ?cn ?co (by decide) ?c63 ?cb ?cl (w.heap.size + 3) ?cH ?next)
 case cn => exact World.news_of_block (cs := #[.int .i64 k, .int .i64 f, .int .i64 v]) (t := 94) (fr := (0, 0)) (by rw [show w.heap.size + 1 + 1 = ((w.alloc _).alloc _).heap.size by simp]; exact heap_alloc_new _ _)
 case co => intro u hu; simp at hu; rcases hu with rfl | rfl | rfl <;> rfl
 case c63 => unfold maxLen; omega
 case cb => omega
 case cl => simp; omega
 case cH => simp
 case next =>
  intro g cap w' hown' hgrow hat hlt
  obtain ⟨b0, f0⟩ := cells_kept (hgrow.block w.heap.size (by simp; omega) hne.1.symm) (heap3_0 w _ _ _)
  obtain ⟨b1, f1⟩ := cells_kept (hgrow.block (w.heap.size + 1) (by simp) hne.2.symm) (heap3_1 w _ _ _)
  have O := Lib.hid hown'
  have G := Lib.hid hgrow
  have A' := Lib.hid hat
  clear hown' hgrow hat
  go_wp2_with fail
  have hg0 : g ≠ w.heap.size ∧ g ≠ w.heap.size + 1 := by
   rcases A'.out with h | h
   ·exact ⟨fun e => hne.1 (by rw [h, e]), fun e => hne.2 (by rw [h, e])⟩
   ·omega
  have n0 : ∀ c, (Value.slice (some ⟨g, 0, none⟩) (m.trace.length + 1) c).ownBlock ≠ some w.heap.size := fun c e => hg0.1 (by simpa [Value.ownBlock] using e)
  have n1 : ∀ c, (Value.slice (some ⟨g, 0, none⟩) (m.trace.length + 1) c).ownBlock ≠ some (w.heap.size + 1) := fun c e => hg0.2 (by simpa [Value.ownBlock] using e)
  refine bodyPost_ret (v := mval (.slice Ap np cp) fuel (tell m k f v) (.slice (some ⟨g, 0, none⟩) (m.trace.length + 1) cap) (.slice As ns cs)) (by simp [results, Try.results124, go_sem, b0, b1, mval, tell]) rfl ⟨_, rfl, ?_, ?_, ?_⟩
  ·have o := O.out
   have : cells3 m.trace ++ [.int .i64 k, .int .i64 f, .int .i64 v] = cells3 (tell m k f v).trace := by simp [tell, cells3, c3]
   rw [this] at o
   have o' : Tre w' lo (.slice (some ⟨g, 0, none⟩) (m.trace.length + 1) cap) (tell m k f v).trace := by
    unfold Tre; rw [show (tell m k f v).trace.length = m.trace.length + 1 by simp [tell]]; exact o
   unfold Tre at o' ⊢
   iterate 8 refine own_far ?_ _ _ (n1 _)
   refine own_far ?_ _ _ (n0 _)
   exact o'
  ·have z : Chg (fun x => (Value.slice At m.trace.length ct).ownBlock = some x) w w' := (((Chg.alloc _ w _).new _).new _).trans (Chg.of_grown G.out) (fun x _ hx => hx.symm)
   iterate 8 refine Chg.put ?_ _ _ (.inl (by show w.heap.size ≤ w.heap.size + 1; omega))
   exact Chg.put z _ _ (.inl (Nat.le_refl _))
  ·intro x hx
   obtain rfl : g = x := by simpa [Value.ownBlock] using hx
   rcases A'.out with h | h
   ·exact .inl h
   ·exact .inr (by omega)
end Go.Proofs.Ythejnpignlhgiaa.Srun
