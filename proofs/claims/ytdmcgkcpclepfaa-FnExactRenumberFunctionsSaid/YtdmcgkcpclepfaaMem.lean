import Derived.Test.YtdmcgkcpclepfaaRows
import Derived.Test.YtdmcgkcpclepfaaRunPlain
import Derived.WalkKit
import Derived.ProofKit
import Derived.Lib.Hide
import Derived.WalkSpells
import Derived.WalkLawsBesides
import Derived.Deep.QuietTactic
import Derived.BigQuiet
import Derived.Outline
set_option linter.all false
namespace Go.Proofs.Ytdmcgkcpclepfaa.Mem
open Go.ChangeShapes Go.WideShapes Go.ChangeAt Go.RowKit
open PL
theorem block_of_add (a : Addr) (n : Nat) : (a.add n).block = a.block := by unfold Addr.add; split <;> rfl
theorem add_own (g k : Nat) : (⟨g, 0, none⟩ : Addr).add k = ⟨g, k, none⟩ := by unfold Addr.add; split <;> simp_all
theorem below_drewN {B : Nat} {a w : World} (h : Below B a w) (n : Nat) : Below B a (w.drewN n) := ⟨h.os, h.tape, h.output, h.size, h.block⟩
theorem below_undrew {B : Nat} {a w : World} (h : Below B a.drew w) : Below B a w := ⟨h.os, h.tape, h.output, h.size, h.block⟩
theorem below_undrewN {B : Nat} {a w : World} {n : Nat} (h : Below B (a.drewN n) w) : Below B a w := ⟨h.os, h.tape, h.output, h.size, h.block⟩
structure Chg (C : Nat → Prop) (w w' : World) : Prop where
 os : w'.os = w.os
 tape : w'.tape = w.tape
 output : w'.output = w.output
 size : w.heap.size ≤ w'.heap.size
 block : ∀ k, k < w.heap.size → ¬ C k → w'.heap[k]? = w.heap[k]?
theorem Chg.refl (C : Nat → Prop) (w : World) : Chg C w w := ⟨rfl, rfl, rfl, Nat.le_refl _, fun _ _ _ => rfl⟩
theorem Chg.trans {C D : Nat → Prop} {a b c : World} (h : Chg C a b) (k : Chg D b c) (hD : ∀ x, x < a.heap.size → D x → C x) : Chg C a c :=
 ⟨k.os.trans h.os, k.tape.trans h.tape, k.output.trans h.output, Nat.le_trans h.size k.size, fun i hi hn =>
  (k.block i (Nat.lt_of_lt_of_le hi h.size) (fun hd => hn (hD i hi hd))).trans (h.block i hi hn)⟩
theorem Chg.mono {C D : Nat → Prop} {a b : World} (h : Chg C a b) (hD : ∀ x, x < a.heap.size → C x → D x) : Chg D a b :=
 ⟨h.os, h.tape, h.output, h.size, fun i hi hn => h.block i hi (fun hc => hn (hD i hi hc))⟩
theorem Chg.of_below {C : Nat → Prop} {a b : World} (h : Below a.heap.size a b) : Chg C a b := ⟨h.os, h.tape, h.output, h.size, fun i hi _ => h.block i hi⟩
theorem Chg.below {B : Nat} {C : Nat → Prop} {a b : World} (h : Chg C a b) (hB : B ≤ a.heap.size) (hC : ∀ x, x < B → ¬ C x) : Below B a b :=
 ⟨h.os, h.tape, h.output, h.size, fun i hi => h.block i (by omega) (hC i hi)⟩
theorem Chg.of_grown {row : Option Nat} {a b : World} (h : a.grownBy b row) : Chg (fun k => some k = row) a b := ⟨h.os, h.tape, h.output, h.size, fun i hi hn => h.block i hi hn⟩
theorem Chg.alloc (C : Nat → Prop) (w : World) (o : Obj) : Chg C w (w.alloc o) := ⟨rfl, rfl, rfl, by simp, fun k hk _ => Below.heap_alloc _ _ _ hk⟩
theorem Chg.set (w : World) (p : Addr) (u : Value) : Chg (fun k => k = p.block) w (w.setCell p u) := ⟨rfl, rfl, rfl, by simp [World.setCell], fun k _ hn => Below.heap_setCell _ _ _ _ hn⟩
theorem Chg.drewN (C : Nat → Prop) (w : World) (n : Nat) : Chg C w (w.drewN n) := ⟨rfl, rfl, rfl, Nat.le_refl _, fun _ _ _ => rfl⟩
theorem Chg.drew (C : Nat → Prop) (w : World) : Chg C w w.drew := ⟨rfl, rfl, rfl, Nat.le_refl _, fun _ _ _ => rfl⟩
theorem Chg.cell {C : Nat → Prop} {w w' : World} (h : Chg C w w') {p : Addr} (hp : p.block < w.heap.size) (hn : ¬ C p.block) : w'.cell? p = w.cell? p := World.cell?_of_block (h.block _ hp hn)
theorem heap1_0 (w : World) (o : Obj) : (w.alloc o).heap[w.heap.size]? = some o := heap_alloc_new _ _
theorem heap2_0 (w : World) (o o' : Obj) : ((w.alloc o).alloc o').heap[w.heap.size]? = some o := (Below.heap_alloc (w.alloc o) o' w.heap.size (by simp)).trans (heap_alloc_new w o)
theorem heap2_1 (w : World) (o o' : Obj) : ((w.alloc o).alloc o').heap[w.heap.size + 1]? = some o' := (by have := heap_alloc_new (w.alloc o) o'; rwa [World.size_alloc] at this)
theorem heap3_0 (w : World) (o o' o2 : Obj) : (((w.alloc o).alloc o').alloc o2).heap[w.heap.size]? = some o := (Below.heap_alloc ((w.alloc o).alloc o') o2 w.heap.size (by simp; omega)).trans (heap2_0 w o o')
theorem heap3_1 (w : World) (o o' o2 : Obj) : (((w.alloc o).alloc o').alloc o2).heap[w.heap.size + 1]? = some o' := (Below.heap_alloc ((w.alloc o).alloc o') o2 (w.heap.size + 1) (by simp)).trans (heap2_1 w o o')
theorem heap3_2 (w : World) (o o' o2 : Obj) : (((w.alloc o).alloc o').alloc o2).heap[w.heap.size + 2]? = some o2 := (by have := heap_alloc_new ((w.alloc o).alloc o') o2; rwa [World.size_alloc, World.size_alloc] at this)
theorem Chg.put {C : Nat → Prop} {a w : World} (h : Chg C a w) (p : Addr) (u : Value) (hp : a.heap.size ≤ p.block ∨ C p.block) : Chg C a (w.setCell p u) :=
 h.trans (Chg.set w p u) (fun x hx hd => by
  obtain rfl : x = p.block := hd
  rcases hp with hp | hp
  ·omega
  ·exact hp)
theorem Chg.new {C : Nat → Prop} {a w : World} (h : Chg C a w) (o : Obj) : Chg C a (w.alloc o) := h.trans (Chg.alloc (fun _ => False) w o) (fun _ _ hd => hd.elim)
theorem own_far {w : World} {B e sz n : Nat} {v : Value} {xs : List Value} (h : w.ownsRow B e sz v n xs) (p : Addr) (u : Value) (hp : v.ownBlock ≠ some p.block) : (w.setCell p u).ownsRow B e sz v n xs :=
 ⟨h.1, h.2.imp id fun ⟨g, cap, cur, hv, hB, hg, r⟩ => ⟨g, cap, cur, hv, hB, by
  rw [Below.heap_setCell _ _ _ _ (fun e => hp (by rw [hv, ← e]; rfl))]; exact hg, r⟩⟩
def Blk (w : World) (g : Nat) (t : TypeId) (cs : Array Value) : Prop := w.heap[g]? = some (.cells cs t (0, 0))
theorem Blk.lt {w : World} {g : Nat} {t : TypeId} {cs : Array Value} (h : Blk w g t cs) : g < w.heap.size := (Array.getElem?_eq_some_iff.1 h).1
theorem Blk.cells {w : World} {g : Nat} {t : TypeId} {cs : Array Value} (h : Blk w g t cs) : ∀ o, w.cell? ⟨g, o, none⟩ = cs[o]? := fun o => cell_of_row w g o cs t (0, 0) h
theorem Blk.frozen {w : World} {g : Nat} {t : TypeId} {cs : Array Value} (h : Blk w g t cs) : ∀ o, w.frozen? ⟨g, o, none⟩ = false := fun o => frozen_of_row w g o cs t h
theorem Blk.chg {C : Nat → Prop} {w w' : World} {g : Nat} {t : TypeId} {cs : Array Value} (h : Blk w g t cs) (hb : Chg C w w') (hC : ¬ C g) : Blk w' g t cs := (hb.block g h.lt hC).trans h
theorem Blk.below {B : Nat} {w w' : World} {g : Nat} {t : TypeId} {cs : Array Value} (h : Blk w g t cs) (hb : Below B w w') (hg : g < B) : Blk w' g t cs := (hb.block g hg).trans h
theorem Blk.far {w : World} {g : Nat} {t : TypeId} {cs : Array Value} (h : Blk w g t cs) (p : Addr) (u : Value) (hp : g ≠ p.block) : Blk (w.setCell p u) g t cs := (Below.heap_setCell w p u g hp).trans h
theorem Blk.alloc {w : World} {g : Nat} {t : TypeId} {cs : Array Value} (h : Blk w g t cs) (o : Obj) : Blk (w.alloc o) g t cs := (Below.heap_alloc w o g h.lt).trans h
theorem Blk.put {w : World} {g : Nat} {t : TypeId} {cs : Array Value} (h : Blk w g t cs) (i : Nat) (u : Value) : Blk (w.setCell ⟨g, i, none⟩ u) g t (cs.setIfInBounds i u) := heap_setCell_same w g i cs t u h
theorem Blk.set8 {w : World} {g : Nat} {t : TypeId} {a0 a1 a2 a3 a4 a5 a6 a7 : Value} (h : Blk w g t #[a0, a1, a2, a3, a4, a5, a6, a7]) (u0 u1 u2 u3 u4 u5 u6 u7 : Value) :
  Blk ((((((((w.setCell ⟨g, 0, none⟩ u0).setCell ⟨g, 1, none⟩ u1).setCell ⟨g, 2, none⟩ u2).setCell ⟨g, 3, none⟩ u3).setCell ⟨g, 4, none⟩ u4).setCell ⟨g, 5, none⟩ u5).setCell ⟨g, 6, none⟩ u6).setCell ⟨g, 7, none⟩ u7) g t #[u0, u1, u2, u3, u4, u5, u6, u7] :=
 by
 have := (((((((h.put 0 u0).put 1 u1).put 2 u2).put 3 u3).put 4 u4).put 5 u5).put 6 u6).put 7 u7
 simpa only [List.setIfInBounds_toArray, List.set_cons_zero, List.set_cons_succ] using this
theorem heap4_0 (w : World) (o0 o1 o2 o3 : Obj) : ((((w.alloc o0).alloc o1).alloc o2).alloc o3).heap[w.heap.size]? = some o0 := (Below.heap_alloc _ o3 w.heap.size (by simp <;> omega)).trans (heap3_0 w o0 o1 o2)
theorem heap4_1 (w : World) (o0 o1 o2 o3 : Obj) : ((((w.alloc o0).alloc o1).alloc o2).alloc o3).heap[w.heap.size + 1]? = some o1 := (Below.heap_alloc _ o3 (w.heap.size + 1) (by simp <;> omega)).trans (heap3_1 w o0 o1 o2)
theorem heap4_2 (w : World) (o0 o1 o2 o3 : Obj) : ((((w.alloc o0).alloc o1).alloc o2).alloc o3).heap[w.heap.size + 2]? = some o2 := (Below.heap_alloc _ o3 (w.heap.size + 2) (by simp <;> omega)).trans (heap3_2 w o0 o1 o2)
theorem heap4_3 (w : World) (o0 o1 o2 o3 : Obj) : ((((w.alloc o0).alloc o1).alloc o2).alloc o3).heap[w.heap.size + 3]? = some o3 := (by have := heap_alloc_new (((w.alloc o0).alloc o1).alloc o2) o3; rwa [World.size_alloc, World.size_alloc, World.size_alloc] at this)
theorem heap5_0 (w : World) (o0 o1 o2 o3 o4 : Obj) : (((((w.alloc o0).alloc o1).alloc o2).alloc o3).alloc o4).heap[w.heap.size]? = some o0 := (Below.heap_alloc _ o4 w.heap.size (by simp <;> omega)).trans (heap4_0 w o0 o1 o2 o3)
theorem heap5_1 (w : World) (o0 o1 o2 o3 o4 : Obj) : (((((w.alloc o0).alloc o1).alloc o2).alloc o3).alloc o4).heap[w.heap.size + 1]? = some o1 := (Below.heap_alloc _ o4 (w.heap.size + 1) (by simp <;> omega)).trans (heap4_1 w o0 o1 o2 o3)
theorem heap5_3 (w : World) (o0 o1 o2 o3 o4 : Obj) : (((((w.alloc o0).alloc o1).alloc o2).alloc o3).alloc o4).heap[w.heap.size + 1 + 1 + 1]? = some o3 := (Below.heap_alloc _ o4 (w.heap.size + 3) (by simp <;> omega)).trans (heap4_3 w o0 o1 o2 o3)
theorem heap5_4 (w : World) (o0 o1 o2 o3 o4 : Obj) : (((((w.alloc o0).alloc o1).alloc o2).alloc o3).alloc o4).heap[w.heap.size + 1 + 1 + 1 + 1]? = some o4 := (by have := heap_alloc_new ((((w.alloc o0).alloc o1).alloc o2).alloc o3) o4; rwa [World.size_alloc, World.size_alloc, World.size_alloc, World.size_alloc] at this)
theorem cells_kept {w w' : World} {b : Nat} {cs : Array Value} {t : TypeId} (h : w'.heap[b]? = w.heap[b]?) (hb : w.heap[b]? = some (.cells cs t (0, 0))) :
  (∀ o, w'.cell? ⟨b, o, none⟩ = cs[o]?) ∧ ∀ o, w'.frozen? ⟨b, o, none⟩ = false :=
 ⟨fun o => cell_of_row w' b o cs t (0, 0) (h.trans hb), fun o => frozen_of_row w' b o cs t (h.trans hb)⟩
def c3 (s : Tr) : List Value := [.int .i64 s.1, .int .i64 s.2.1, .int .i64 s.2.2]
def cells3 (l : List Tr) : List Value := l.flatMap c3
theorem cells3_nil : cells3 [] = [] := rfl
theorem cells3_cons (s : Tr) (l : List Tr) : cells3 (s :: l) = .int .i64 s.1 :: .int .i64 s.2.1 :: .int .i64 s.2.2 :: cells3 l := rfl
theorem cells3_append (a b : List Tr) : cells3 (a ++ b) = cells3 a ++ cells3 b := by simp [cells3]
theorem cells3_length (l : List Tr) : (cells3 l).length = l.length * 3 := by
 induction l with
 | nil => rfl
 | cons s l ih => rw [cells3_cons]; simp only [List.length_cons, ih]; omega
theorem cells3_at : ∀ (l : List Tr) (j : Nat) (s : Tr), l[j]? = some s → (cells3 l)[j * 3]? = some (.int .i64 s.1) ∧ (cells3 l)[j * 3 + 1]? = some (.int .i64 s.2.1) ∧ (cells3 l)[j * 3 + 2]? = some (.int .i64 s.2.2)
 | [], j, s, h => by simp at h
 | a :: l, 0, s, h => by
  obtain rfl : a = s := by simpa using h
  exact ⟨rfl, rfl, rfl⟩
 | a :: l, j + 1, s, h => by
  have := cells3_at l j s (by simpa using h)
  rw [show (j + 1) * 3 = j * 3 + 3 by omega, cells3_cons]
  simpa [show j * 3 + 3 + 1 = j * 3 + 1 + 3 by omega, show j * 3 + 3 + 2 = j * 3 + 2 + 3 by omega] using this
theorem cells3_set : ∀ (l : List Tr) (j : Nat) (s : Tr), j < l.length →
  (((cells3 l).set (j * 3) (.int .i64 s.1)).set (j * 3 + 1) (.int .i64 s.2.1)).set (j * 3 + 2) (.int .i64 s.2.2) = cells3 (l.set j s)
 | [], j, s, h => by simp at h
 | a :: l, 0, s, _ => rfl
 | a :: l, j + 1, s, h => by
  have := cells3_set l j s (by simpa using h)
  have e : ∀ l, cells3 (a :: l) = c3 a ++ cells3 l := fun l => by simp [cells3]
  have e3 : (c3 a).length = 3 := rfl
  rw [e, List.set_cons_succ, e, ← this, List.set_append_right _ _ (by rw [e3]; omega), List.set_append_right _ _ (by rw [e3]; omega), List.set_append_right _ _ (by rw [e3]; omega), e3,
   show (j + 1) * 3 - 3 = j * 3 by omega, show (j + 1) * 3 + 1 - 3 = j * 3 + 1 by omega, show (j + 1) * 3 + 2 - 3 = j * 3 + 2 by omega]
theorem made3 (n : Nat) : (madeCells #[Value.int .i64 0, Value.int .i64 0, Value.int .i64 0] (n * 3)).toList = cells3 (List.replicate n (0, 0, 0)) := by
 apply List.ext_getElem?
 intro i
 by_cases h : i < n * 3
 ·obtain ⟨q, r, hr, rfl⟩ : ∃ q r, r < 3 ∧ i = q * 3 + r := ⟨i / 3, i % 3, by omega, by omega⟩
  have hj : (List.replicate n ((0, 0, 0) : Tr))[q]? = some (0, 0, 0) := by simp [List.getElem?_replicate]; omega
  obtain ⟨h0, h1, h2⟩ := cells3_at _ _ _ hj
  have hm : (madeCells #[Value.int .i64 0, Value.int .i64 0, Value.int .i64 0] (n * 3)).toList[q * 3 + r]? = some (.int .i64 0) := by
   have e : (q * 3 + r) % 3 = r := by omega
   have hr' : r = 0 ∨ r = 1 ∨ r = 2 := by omega
   rcases hr' with rfl | rfl | rfl <;> simp [madeCells] <;> exact ⟨_, List.getElem?_range h, by simp⟩
  rw [hm]
  match r, hr with
  | 0, _ => exact h0.symm
  | 1, _ => exact h1.symm
  | 2, _ => exact h2.symm
 ·rw [List.getElem?_eq_none (by simp [madeCells]; omega), List.getElem?_eq_none (by rw [cells3_length]; simp; omega)]
def Rd3 (w : World) (B : Nat) (A : Option Addr) (xs : List Tr) : Prop :=
 ∀ j s, xs[j]? = some s → ∃ ad, A = some ad ∧ ad.block < B ∧ w.cell? (ad.add (j * 3)) = some (.int .i64 s.1) ∧
  w.cell? ⟨(ad.add (j * 3)).block, (ad.add (j * 3)).off + 1, none⟩ = some (.int .i64 s.2.1) ∧ w.cell? ⟨(ad.add (j * 3)).block, (ad.add (j * 3)).off + 2, none⟩ = some (.int .i64 s.2.2)
theorem Rd3.keep {w w' : World} {B : Nat} {A : Option Addr} {xs : List Tr} (h : Rd3 w B A xs) (hk : ∀ p : Addr, p.block < B → w'.cell? p = w.cell? p) : Rd3 w' B A xs :=
 fun j s hs => by
  obtain ⟨ad, e, hb, h0, h1, h2⟩ := h j s hs
  exact ⟨ad, e, hb, (hk _ (by rw [block_of_add]; exact hb)).trans h0, (hk _ (by show (ad.add _).block < B; rw [block_of_add]; exact hb)).trans h1, (hk _ (by show (ad.add _).block < B; rw [block_of_add]; exact hb)).trans h2⟩
theorem Rd3.below {w w' : World} {B : Nat} {A : Option Addr} {xs : List Tr} (h : Rd3 w B A xs) (hb : Below B w w') : Rd3 w' B A xs := h.keep fun _ hp => hb.cell hp
theorem Rd3.more {w : World} {B B' : Nat} {A : Option Addr} {xs : List Tr} (h : Rd3 w B A xs) (hB : B ≤ B') : Rd3 w B' A xs :=
 fun j s hs => by
  obtain ⟨ad, e, hb, r⟩ := h j s hs
  exact ⟨ad, e, by omega, r⟩
def RdP (w : World) (B : Nat) (A : Option Addr) (p : Pg) : Prop :=
 ∀ i xs, p[i]? = some xs → ∃ ad Ai ci, A = some ad ∧ ad.block < B ∧ w.cell? (ad.add i) = some (.slice Ai xs.length ci) ∧ Rd3 w B Ai xs
theorem RdP.keep {w w' : World} {B : Nat} {A : Option Addr} {p : Pg} (h : RdP w B A p) (hk : ∀ p : Addr, p.block < B → w'.cell? p = w.cell? p) : RdP w' B A p :=
 fun i xs hx => by
  obtain ⟨ad, Ai, ci, e, hb, h0, h1⟩ := h i xs hx
  exact ⟨ad, Ai, ci, e, hb, (hk _ (by rw [block_of_add]; exact hb)).trans h0, h1.keep hk⟩
theorem RdP.below {w w' : World} {B : Nat} {A : Option Addr} {p : Pg} (h : RdP w B A p) (hb : Below B w w') : RdP w' B A p := h.keep fun _ hp => hb.cell hp
theorem RdP.more {w : World} {B B' : Nat} {A : Option Addr} {p : Pg} (h : RdP w B A p) (hB : B ≤ B') : RdP w B' A p :=
 fun i xs hx => by
  obtain ⟨ad, Ai, ci, e, hb, h0, h1⟩ := h i xs hx
  exact ⟨ad, Ai, ci, e, by omega, h0, h1.more hB⟩
def Small (p : Pg) (N : Nat) : Prop := ∀ (i : Nat) (xs : List Tr), p[i]? = some xs → xs.length ≤ N
theorem Small.mono {p : Pg} {N M : Nat} (h : Small p N) (hm : N ≤ M) : Small p M := fun i xs hx => Nat.le_trans (h i xs hx) hm
theorem own_form {w : World} {B e sz n : Nat} {v : Value} {xs : List Value} (h : w.ownsRow B e sz v n xs) : (n = 0 ∧ ∃ a cap, v = .slice a 0 cap) ∨ (0 < n ∧ ∃ g cap, v = .slice (some ⟨g, 0, none⟩) n cap ∧ B ≤ g ∧ g < w.heap.size) := by
 rcases h.2 with ⟨rfl, rfl⟩ | ⟨g, cap, cur, rfl, hb, hg, _⟩
 ·exact .inl ⟨rfl, _, _, rfl⟩
 ·rcases Nat.eq_zero_or_pos n with rfl | hn
  ·exact .inl ⟨rfl, _, _, rfl⟩
  ·exact .inr ⟨hn, g, cap, rfl, hb, (Array.getElem?_eq_some_iff.1 hg).1⟩
theorem own_slice {w : World} {B e sz n : Nat} {v : Value} {xs : List Value} (h : w.ownsRow B e sz v n xs) : ∃ A cap, v = .slice A n cap := by
 rcases own_form h with ⟨rfl, a, c, rfl⟩ | ⟨_, g, c, rfl, _⟩ <;> exact ⟨_, _, rfl⟩
theorem own_chg {C : Nat → Prop} {w w' : World} {B e sz n : Nat} {v : Value} {xs : List Value} (h : w.ownsRow B e sz v n xs) (hb : Chg C w w') (hC : ∀ k, v.ownBlock = some k → ¬ C k) : w'.ownsRow B e sz v n xs := by
 refine ⟨h.1, ?_⟩
 rcases h.2 with h0 | ⟨g, cap, cur, rfl, hB, hg, r⟩
 ·exact .inl h0
 ·exact .inr ⟨g, cap, cur, rfl, hB, by rw [hb.block g (Array.getElem?_eq_some_iff.1 hg).1 (hC g rfl)]; exact hg, r⟩
theorem own_below {w w' : World} {B B' e sz n : Nat} {v : Value} {xs : List Value} (h : w.ownsRow B e sz v n xs) (hb : Below B' w w') (hB : w.heap.size ≤ B') : w'.ownsRow B e sz v n xs := by
 refine ⟨h.1, ?_⟩
 rcases h.2 with h0 | ⟨g, cap, cur, hv, hB, hg, r⟩
 ·exact .inl h0
 ·exact .inr ⟨g, cap, cur, hv, hB, by rw [hb.block g (Nat.lt_of_lt_of_le (Array.getElem?_eq_some_iff.1 hg).1 (by assumption))]; exact hg, r⟩
theorem own_mono {w : World} {B B' e sz n : Nat} {v : Value} {xs : List Value} (h : w.ownsRow B e sz v n xs) (hb : B' ≤ B) : w.ownsRow B' e sz v n xs :=
 ⟨h.1, h.2.imp id fun ⟨g, cap, cur, h1, h2, h3⟩ => ⟨g, cap, cur, h1, Nat.le_trans hb h2, h3⟩⟩
theorem rd_own {w : World} {B n c e : Nat} {A : Option Addr} {xs : List Tr} (h : w.ownsRow B e 3 (.slice A n c) n (cells3 xs)) : Rd3 w w.heap.size A xs := by
 intro j s hs
 have hn : xs.length = n := by have := h.1; rw [cells3_length] at this; omega
 have hj : j < xs.length := (List.getElem?_eq_some_iff.1 hs).1
 rcases own_form h with ⟨h0, _⟩ | ⟨_, g, cap, hv, _, hg⟩
 ·omega
 ·simp only [Value.slice.injEq, true_and] at hv
  obtain ⟨rfl, rfl⟩ := hv
  obtain ⟨c0, c1, c2⟩ := cells3_at xs j s hs
  refine ⟨_, rfl, hg, ?_, ?_, ?_⟩ <;> rw [add_own]
  ·rw [h.cellAt _ (by omega)]; exact c0
  ·show w.cell? ⟨g, j * 3 + 1, none⟩ = _; rw [h.cellAt _ (by omega)]; exact c1
  ·show w.cell? ⟨g, j * 3 + 2, none⟩ = _; rw [h.cellAt _ (by omega)]; exact c2
def OwnP (w : World) (lo : Nat) (v : Value) (p : Pg) : Prop :=
 ∃ vals : List Value, vals.length = p.length ∧ w.ownsRow lo 59 1 v p.length vals ∧
  (∀ (i : Nat) (xs : List Tr), p[i]? = some xs → ∃ u, vals[i]? = some u ∧ w.ownsRow lo 58 3 u xs.length (cells3 xs)) ∧
  ∀ (i j : Nat) (u u' : Value) (k : Nat), vals[i]? = some u → vals[j]? = some u' → u.ownBlock = some k → u'.ownBlock = some k → i = j
theorem OwnP.form {w : World} {lo : Nat} {v : Value} {p : Pg} (h : OwnP w lo v p) : ∃ A c, v = .slice A p.length c := by
 obtain ⟨vals, _, ho, _⟩ := h
 exact own_slice ho
theorem OwnP.rd {w : World} {lo n c : Nat} {A : Option Addr} {p : Pg} (h : OwnP w lo (.slice A n c) p) : RdP w w.heap.size A p := by
 obtain ⟨vals, hl, ho, hr, _⟩ := h
 intro i xs hx
 have hi : i < p.length := (List.getElem?_eq_some_iff.1 hx).1
 obtain ⟨u, hu, hown⟩ := hr i xs hx
 obtain ⟨Ai, ci, rfl⟩ := own_slice hown
 rcases own_form ho with ⟨h0, _⟩ | ⟨_, g, cap, hv, _, hg⟩
 ·omega
 ·have hv' := hv
  simp only [Value.slice.injEq, true_and] at hv
  obtain ⟨rfl, _⟩ := hv
  rw [hv'] at ho
  refine ⟨_, Ai, ci, rfl, hg, ?_, rd_own hown⟩
  rw [add_own, ho.cellAt _ (by omega)]
  exact hu
theorem OwnP.chg {C : Nat → Prop} {w w' : World} {lo : Nat} {v : Value} {p : Pg} (h : OwnP w lo v p) (hb : Chg C w w') (hC : ∀ k, lo ≤ k → k < w.heap.size → ¬ C k) : OwnP w' lo v p := by
 obtain ⟨vals, hl, ho, hr, hd⟩ := h
 refine ⟨vals, hl, own_chg ho hb (fun k hk => hC k (ho.lt k hk).1 (ho.lt k hk).2), fun i xs hx => ?_, hd⟩
 obtain ⟨u, hu, hown⟩ := hr i xs hx
 exact ⟨u, hu, own_chg hown hb (fun k hk => hC k (hown.lt k hk).1 (hown.lt k hk).2)⟩
theorem OwnP.below {w w' : World} {lo : Nat} {v : Value} {p : Pg} (h : OwnP w lo v p) (hb : Below w.heap.size w w') : OwnP w' lo v p := h.chg (C := fun _ => False) (Chg.of_below hb) (fun _ _ _ hc => hc)
theorem OwnP.mono {w : World} {lo lo' : Nat} {v : Value} {p : Pg} (h : OwnP w lo v p) (hl : lo' ≤ lo) : OwnP w lo' v p := by
 obtain ⟨vals, hn, ho, hr, hd⟩ := h
 refine ⟨vals, hn, own_mono ho hl, fun i xs hx => ?_, hd⟩
 obtain ⟨u, hu, hou⟩ := hr i xs hx
 exact ⟨u, hu, own_mono hou hl⟩
theorem info3 : (Try.prog.info? 3).map (fun i => (i.zero, i.size, i.bytes)) = some (some (.int .i64 0), 1, 8) := by kernel_rfl
theorem infoStep : (Try.prog.info? 58).map (fun i => (i.zero, i.size, i.bytes)) = some (some (.agg #[.int .i64 0, .int .i64 0, .int .i64 0]), 3, 24) := by kernel_rfl
theorem infoSteps : (Try.prog.info? 59).map (fun i => (i.zero, i.size, i.bytes)) = some (some (.slice none 0 0), 1, 24) := by kernel_rfl
theorem run_make_rowN {P : Program} (t e : TypeId) (i : TypeInfo) (z : Value) (ht : P.underlying t = some (.slice e)) (hi : P.info? e = some i) (hz : i.zero = some z)
  (kl kc : IntKind) (n c : Nat) (hnc : n ≤ c) (hbytes : i.bytes * c ≤ 281474976710656) (h63 : c ≤ 9223372036854775807) (w : World) :
  (Instr.makeSlice t (.int kl (n : Int)) (.int kc (c : Int))).run P w = .ok (.slice (some ⟨w.heap.size, 0, none⟩) n c) (w.alloc (.cells (madeCells z.cells (c * i.size)) e)) := by
 have hb : (i.bytes : Int) * (c : Int) ≤ 281474976710656 := by
  have h : ((i.bytes * c : Nat) : Int) ≤ 281474976710656 := by omega
  rwa [Int.natCast_mul] at h
 have hr := run_make (P := P) w t e i z ht hi hz kl kc n c (by omega) (by omega) hb (by omega)
 simp only [Int.toNat_natCast] at hr
 exact hr
end Go.Proofs.Ytdmcgkcpclepfaa.Mem
-- squeezed
