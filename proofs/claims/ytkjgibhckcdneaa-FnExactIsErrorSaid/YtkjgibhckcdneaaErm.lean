/- Errors in memory: a slice of nodes that reads as a list of nodes, one of the call's own, one between two bounds. -/
import Derived.Test.YtkjgibhckcdneaaInts
import Derived.Test.YtkjgibhckcdneaaErp
namespace Go.Proofs.Ytkjgibhckcdneaa.ErM
set_option linter.unusedVariables false
set_option linter.unusedSimpArgs false
open Go.ChangeShapes Go.WideShapes Go.ChangeAt Go.RowKit
open Mem IntsP ErP

/-- A node's cells: kind, code, and what its parts lie in. -/
abbrev Cn := Int × Int × Value
def cN (x : Cn) : List Value := [.int .i64 x.1, .int .i64 x.2.1, x.2.2]
def cellsN (l : List Cn) : List Value := l.flatMap cN
theorem cellsN_nil : cellsN [] = [] := rfl
theorem cellsN_cons (s : Cn) (l : List Cn) : cellsN (s :: l) = .int .i64 s.1 :: .int .i64 s.2.1 :: s.2.2 :: cellsN l := rfl
theorem cellsN_append (a b : List Cn) : cellsN (a ++ b) = cellsN a ++ cellsN b := by simp [cellsN]
theorem cellsN_length (l : List Cn) : (cellsN l).length = l.length * 3 := by
  induction l with
  | nil => rfl
  | cons s l ih => rw [cellsN_cons]; simp only [List.length_cons, ih]; omega
theorem cellsN_at : ∀ (l : List Cn) (j : Nat) (s : Cn), l[j]? = some s → (cellsN l)[j * 3]? = some (.int .i64 s.1) ∧ (cellsN l)[j * 3 + 1]? = some (.int .i64 s.2.1) ∧ (cellsN l)[j * 3 + 2]? = some s.2.2
  | [], j, s, h => by simp at h
  | a :: l, 0, s, h => by
    obtain rfl : a = s := by simpa using h
    exact ⟨rfl, rfl, rfl⟩
  | a :: l, j + 1, s, h => by
    have := cellsN_at l j s (by simpa using h)
    rw [show (j + 1) * 3 = j * 3 + 3 by omega, cellsN_cons]
    simpa [show j * 3 + 3 + 1 = j * 3 + 1 + 3 by omega, show j * 3 + 3 + 2 = j * 3 + 2 + 3 by omega] using this
theorem cellsN_set : ∀ (l : List Cn) (j : Nat) (s : Cn), j < l.length →
    (((cellsN l).set (j * 3) (.int .i64 s.1)).set (j * 3 + 1) (.int .i64 s.2.1)).set (j * 3 + 2) s.2.2 = cellsN (l.set j s)
  | [], j, s, h => by simp at h
  | a :: l, 0, s, _ => rfl
  | a :: l, j + 1, s, h => by
    have := cellsN_set l j s (by simpa using h)
    have e : ∀ l, cellsN (a :: l) = cN a ++ cellsN l := fun l => by simp [cellsN]
    have e3 : (cN a).length = 3 := rfl
    rw [e, List.set_cons_succ, e, ← this, List.set_append_right _ _ (by rw [e3]; omega), List.set_append_right _ _ (by rw [e3]; omega), List.set_append_right _ _ (by rw [e3]; omega), e3,
      show (j + 1) * 3 - 3 = j * 3 by omega, show (j + 1) * 3 + 1 - 3 = j * 3 + 1 by omega, show (j + 1) * 3 + 2 - 3 = j * 3 + 2 by omega]
/-- Two stores, at kind and code. -/
theorem cellsN_set2 (l : List Cn) (j : Nat) (s : Cn) (k c : Int) (h : l[j]? = some s) :
    ((cellsN l).set (j * 3) (.int .i64 k)).set (j * 3 + 1) (.int .i64 c) = cellsN (l.set j (k, c, s.2.2)) := by
  have hj := (List.getElem?_eq_some_iff.1 h).1
  rw [← cellsN_set l j (k, c, s.2.2) hj]
  have h2 := (cellsN_at l j s h).2.2
  apply List.ext_getElem?
  intro i
  by_cases hi : i = j * 3 + 2
  · subst hi
    rw [List.getElem?_set_ne (by omega), List.getElem?_set_ne (by omega), h2, List.getElem?_set_self (by simp only [List.length_set, cellsN_length]; omega)]
  · rw [List.getElem?_set_ne (i := j * 3 + 2) (by omega)]
theorem madeN (n : Nat) : (madeCells #[Value.int .i64 0, Value.int .i64 0, Value.slice none 0 0] (n * 3)).toList = cellsN (List.replicate n (0, 0, .slice none 0 0)) := by
  apply List.ext_getElem?
  intro i
  by_cases h : i < n * 3
  · obtain ⟨q, r, hr, rfl⟩ : ∃ q r, r < 3 ∧ i = q * 3 + r := ⟨i / 3, i % 3, by omega, by omega⟩
    have hj : (List.replicate n ((0, 0, .slice none 0 0) : Cn))[q]? = some (0, 0, .slice none 0 0) := by simp [List.getElem?_replicate]; omega
    obtain ⟨h0, h1, h2⟩ := cellsN_at _ _ _ hj
    have e : (q * 3 + r) % 3 = r := by omega
    match r, hr with
    | 0, _ => simp [madeCells, h0]; exact ⟨_, List.getElem?_range h, by simp⟩
    | 1, _ => rw [h1]; simp [madeCells]; exact ⟨_, List.getElem?_range h, by simp [e]⟩
    | 2, _ => rw [h2]; simp [madeCells]; exact ⟨_, List.getElem?_range h, by simp [e]⟩
  · rw [List.getElem?_eq_none (by simp [madeCells]; omega), List.getElem?_eq_none (by rw [cellsN_length]; simp; omega)]

/-- A slice of nodes that reads as a list, in blocks below B. -/
def RdE (w : World) (B : Nat) (A : Option Addr) (e : Er) : Prop :=
  ∀ (j : Nat) (s : En), e[j]? = some s → ∃ ad Ai ci, A = some ad ∧ ad.block < B ∧ w.cell? (ad.add (j * 3)) = some (.int .i64 s.1) ∧
    w.cell? ⟨(ad.add (j * 3)).block, (ad.add (j * 3)).off + 1, none⟩ = some (.int .i64 s.2.1) ∧
    w.cell? ⟨(ad.add (j * 3)).block, (ad.add (j * 3)).off + 2, none⟩ = some (.slice Ai s.2.2.length ci) ∧ RdI w B Ai s.2.2
theorem RdE.keep {w w' : World} {B : Nat} {A : Option Addr} {e : Er} (h : RdE w B A e) (hk : ∀ p : Addr, p.block < B → w'.cell? p = w.cell? p) : RdE w' B A e :=
  fun j s hs => by
    obtain ⟨ad, Ai, ci, ea, hb, h0, h1, h2, h3⟩ := h j s hs
    exact ⟨ad, Ai, ci, ea, hb, (hk _ (by rw [block_of_add]; exact hb)).trans h0, (hk _ (by show (ad.add _).block < B; rw [block_of_add]; exact hb)).trans h1,
      (hk _ (by show (ad.add _).block < B; rw [block_of_add]; exact hb)).trans h2, h3.keep hk⟩
theorem RdE.below {w w' : World} {B : Nat} {A : Option Addr} {e : Er} (h : RdE w B A e) (hb : Below B w w') : RdE w' B A e := h.keep fun _ hp => hb.cell hp
theorem RdE.more {w : World} {B B' : Nat} {A : Option Addr} {e : Er} (h : RdE w B A e) (hB : B ≤ B') : RdE w B' A e :=
  fun j s hs => by
    obtain ⟨ad, Ai, ci, ea, hb, h0, h1, h2, h3⟩ := h j s hs
    exact ⟨ad, Ai, ci, ea, by omega, h0, h1, h2, h3.more hB⟩
/-- Each error has at most N parts. -/
def SmallE (e : Er) (N : Nat) : Prop := ∀ (i : Nat) (s : En), e[i]? = some s → s.2.2.length ≤ N
theorem SmallE.mono {e : Er} {N M : Nat} (h : SmallE e N) (hm : N ≤ M) : SmallE e M := fun i s hx => Nat.le_trans (h i s hx) hm

/-- Errors of the call's own, in blocks from lo on; no two errors' parts share a block. -/
def OwnE (w : World) (lo : Nat) (v : Value) (e : Er) : Prop :=
  ∃ vals : List Cn, vals.length = e.length ∧ w.ownsRow lo 55 3 v e.length (cellsN vals) ∧
    (∀ (i : Nat) (s : En), e[i]? = some s → ∃ u, vals[i]? = some (s.1, s.2.1, u) ∧ w.ownsRow lo 3 1 u s.2.2.length (cellsI s.2.2)) ∧
    ∀ (i j : Nat) (u u' : Cn) (k : Nat), vals[i]? = some u → vals[j]? = some u' → u.2.2.ownBlock = some k → u'.2.2.ownBlock = some k → i = j
theorem OwnE.form {w : World} {lo : Nat} {v : Value} {e : Er} (h : OwnE w lo v e) : ∃ A c, v = .slice A e.length c := by
  obtain ⟨vals, _, ho, _⟩ := h
  exact own_slice ho
theorem OwnE.rd {w : World} {lo n c : Nat} {A : Option Addr} {e : Er} (h : OwnE w lo (.slice A n c) e) : RdE w w.heap.size A e := by
  obtain ⟨vals, hl, ho, hr, _⟩ := h
  intro i s hx
  have hi : i < e.length := (List.getElem?_eq_some_iff.1 hx).1
  obtain ⟨u, hu, hown⟩ := hr i s hx
  obtain ⟨Ai, ci, rfl⟩ := own_slice hown
  rcases own_form ho with ⟨h0, _⟩ | ⟨_, g, cap, hv, _, hg⟩
  · omega
  · have hv' := hv
    simp only [Value.slice.injEq, true_and] at hv
    obtain ⟨rfl, _⟩ := hv
    rw [hv'] at ho
    obtain ⟨c0, c1, c2⟩ := cellsN_at vals i _ hu
    refine ⟨_, Ai, ci, rfl, hg, ?_, ?_, ?_, rdI_own hown⟩ <;> rw [add_own]
    · rw [ho.cellAt _ (by omega)]; exact c0
    · show w.cell? ⟨g, i * 3 + 1, none⟩ = _; rw [ho.cellAt _ (by omega)]; exact c1
    · show w.cell? ⟨g, i * 3 + 2, none⟩ = _; rw [ho.cellAt _ (by omega)]; exact c2
theorem OwnE.chg {C : Nat → Prop} {w w' : World} {lo : Nat} {v : Value} {e : Er} (h : OwnE w lo v e) (hb : Chg C w w') (hC : ∀ k, lo ≤ k → k < w.heap.size → ¬ C k) : OwnE w' lo v e := by
  obtain ⟨vals, hl, ho, hr, hd⟩ := h
  refine ⟨vals, hl, own_chg ho hb (fun k hk => hC k (ho.lt k hk).1 (ho.lt k hk).2), fun i s hx => ?_, hd⟩
  obtain ⟨u, hu, hown⟩ := hr i s hx
  exact ⟨u, hu, own_chg hown hb (fun k hk => hC k (hown.lt k hk).1 (hown.lt k hk).2)⟩
theorem OwnE.below {w w' : World} {lo : Nat} {v : Value} {e : Er} (h : OwnE w lo v e) (hb : Below w.heap.size w w') : OwnE w' lo v e := h.chg (C := fun _ => False) (Chg.of_below hb) (fun _ _ _ hc => hc)
theorem OwnE.mono {w : World} {lo lo' : Nat} {v : Value} {e : Er} (h : OwnE w lo v e) (hl : lo' ≤ lo) : OwnE w lo' v e := by
  obtain ⟨vals, hn, ho, hr, hd⟩ := h
  refine ⟨vals, hn, own_mono ho hl, fun i s hx => ?_, hd⟩
  obtain ⟨u, hu, hou⟩ := hr i s hx
  exact ⟨u, hu, own_mono hou hl⟩
theorem OwnE.nil (w : World) (lo : Nat) : OwnE w lo (.slice none 0 0) [] :=
  ⟨[], rfl, ⟨rfl, .inl ⟨rfl, rfl⟩⟩, fun i s h => by simp at h, fun i j u u' k h => by simp at h⟩

/-- The first k rows of errors of the call's own. -/
def RowsE (w : World) (lo k : Nat) (vals : List Cn) (e : Er) : Prop :=
  vals.length = k ∧ (∀ (i : Nat) (s : En), i < k → e[i]? = some s → ∃ u, vals[i]? = some (s.1, s.2.1, u) ∧ w.ownsRow lo 3 1 u s.2.2.length (cellsI s.2.2)) ∧
    (∀ (i : Nat) (u : Cn) (h : Nat), vals[i]? = some u → u.2.2.ownBlock = some h → h < w.heap.size) ∧
    ∀ (i j : Nat) (u u' : Cn) (h : Nat), vals[i]? = some u → vals[j]? = some u' → u.2.2.ownBlock = some h → u'.2.2.ownBlock = some h → i = j
theorem RowsE.zero (w : World) (lo : Nat) (e : Er) : RowsE w lo 0 [] e := ⟨rfl, fun _ _ h => absurd h (by omega), fun i u h hu => by simp at hu, fun i j u u' h hu => by simp at hu⟩
theorem RowsE.chg {C : Nat → Prop} {w w' : World} {lo k : Nat} {vals : List Cn} {e : Er} (h : RowsE w lo k vals e) (hb : Chg C w w') (hC : ∀ x, lo ≤ x → x < w.heap.size → ¬ C x) : RowsE w' lo k vals e := by
  obtain ⟨hl, hr, hs, hd⟩ := h
  refine ⟨hl, fun i s hi hx => ?_, fun i u x hu hx => Nat.lt_of_lt_of_le (hs i u x hu hx) hb.size, hd⟩
  obtain ⟨u, hu, ho⟩ := hr i s hi hx
  exact ⟨u, hu, own_chg ho hb (fun x hx => hC x (ho.lt x hx).1 (ho.lt x hx).2)⟩
theorem RowsE.push {w w' : World} {lo k : Nat} {vals : List Cn} {e : Er} (h : RowsE w lo k vals e) (hb : Below w.heap.size w w') {s : En} {u : Value} (hx : e[k]? = some s)
    (ho : w'.ownsRow lo 3 1 u s.2.2.length (cellsI s.2.2)) (hn : ∀ x, u.ownBlock = some x → w.heap.size ≤ x) : RowsE w' lo (k + 1) (vals ++ [(s.1, s.2.1, u)]) e := by
  obtain ⟨hl, hr, hs, hd⟩ := h
  have at_ : ∀ (i : Nat) (v : Cn), (vals ++ [(s.1, s.2.1, u)])[i]? = some v → (i < k ∧ vals[i]? = some v) ∨ (i = k ∧ v = (s.1, s.2.1, u)) := by
    intro i v hv
    rcases Nat.lt_trichotomy i k with hi | hi | hi
    · rw [List.getElem?_append_left (by omega)] at hv
      exact .inl ⟨hi, hv⟩
    · subst hi
      rw [List.getElem?_append_right (by omega), hl, Nat.sub_self] at hv
      exact .inr ⟨rfl, by simpa using hv.symm⟩
    · rw [List.getElem?_eq_none (by simp; omega)] at hv
      cases hv
  refine ⟨by simp [hl], fun i ys hi hy => ?_, fun i v x hv hvx => ?_, fun i j v v' x hv hv' hx1 hx2 => ?_⟩
  · rcases Nat.lt_or_ge i k with hik | hik
    · obtain ⟨v, hv, hov⟩ := hr i ys hik hy
      exact ⟨v, by rw [List.getElem?_append_left (by omega)]; exact hv, own_below hov hb (Nat.le_refl _)⟩
    · obtain rfl : i = k := by omega
      rw [hx] at hy
      obtain rfl : s = ys := by simpa using hy
      exact ⟨u, by rw [List.getElem?_append_right (by omega), hl, Nat.sub_self]; rfl, ho⟩
  · rcases at_ i v hv with ⟨hi, h1⟩ | ⟨rfl, rfl⟩
    · exact Nat.lt_of_lt_of_le (hs i v x h1 hvx) hb.size
    · exact (ho.lt x hvx).2
  · rcases at_ i v hv with ⟨hi, h1⟩ | ⟨rfl, rfl⟩ <;> rcases at_ j v' hv' with ⟨hj, h2⟩ | ⟨rfl, rfl⟩
    · exact hd i j v v' x h1 h2 hx1 hx2
    · have := hs i v x h1 hx1; have := hn x hx2; omega
    · have := hs j v' x h2 hx2; have := hn x hx1; omega
    · rfl
theorem RowsE.own {w : World} {lo lo' : Nat} {v : Value} {vals : List Cn} {e : Er} (h : RowsE w lo e.length vals e) (hlo : lo' ≤ lo) (ho : w.ownsRow lo' 55 3 v e.length (cellsN vals)) : OwnE w lo' v e := by
  obtain ⟨hl, hr, _, hd⟩ := h
  refine ⟨vals, hl, ho, fun i s hx => ?_, hd⟩
  obtain ⟨u, hu, hou⟩ := hr i s (List.getElem?_eq_some_iff.1 hx).1 hx
  exact ⟨u, hu, own_mono hou hlo⟩

/-! ### Errors of the call's own in blocks between two bounds. -/
def OwnHE (w : World) (lo hi : Nat) (v : Value) (e : Er) : Prop :=
  ∃ vals : List Cn, vals.length = e.length ∧ w.ownsRow lo 55 3 v e.length (cellsN vals) ∧
    (∀ (i : Nat) (s : En), e[i]? = some s → ∃ u, vals[i]? = some (s.1, s.2.1, u) ∧ w.ownsRow lo 3 1 u s.2.2.length (cellsI s.2.2)) ∧
    (∀ (i j : Nat) (u u' : Cn) (k : Nat), vals[i]? = some u → vals[j]? = some u' → u.2.2.ownBlock = some k → u'.2.2.ownBlock = some k → i = j) ∧
    (∀ k, v.ownBlock = some k → k < hi) ∧ ∀ (i : Nat) (u : Cn) (k : Nat), vals[i]? = some u → u.2.2.ownBlock = some k → k < hi
theorem OwnHE.own {w : World} {lo hi : Nat} {v : Value} {e : Er} (h : OwnHE w lo hi v e) : OwnE w lo v e := by
  obtain ⟨vals, a, b, c, d, _⟩ := h
  exact ⟨vals, a, b, c, d⟩
theorem OwnHE.of {w : World} {lo : Nat} {v : Value} {e : Er} (h : OwnE w lo v e) : OwnHE w lo w.heap.size v e := by
  obtain ⟨vals, a, b, c, d⟩ := h
  refine ⟨vals, a, b, c, d, fun k hk => (b.lt k hk).2, fun i u k hu hk => ?_⟩
  have hi : i < e.length := by have := (List.getElem?_eq_some_iff.1 hu).1; omega
  obtain ⟨u', hu', ho⟩ := c i _ (List.getElem?_eq_getElem hi)
  obtain rfl : u = _ := Option.some.inj (hu.symm.trans hu')
  exact (ho.lt k hk).2
theorem OwnHE.keep {w w' : World} {lo hi : Nat} {v : Value} {e : Er} (h : OwnHE w lo hi v e) (hk : ∀ b, lo ≤ b → b < hi → w'.heap[b]? = w.heap[b]?) : OwnHE w' lo hi v e := by
  obtain ⟨vals, a, b, c, d, e', f⟩ := h
  have key : ∀ {t sz n : Nat} {u : Value} {xs : List Value}, w.ownsRow lo t sz u n xs → (∀ k, u.ownBlock = some k → k < hi) → w'.ownsRow lo t sz u n xs := by
    intro t sz n u xs ho hh
    refine ⟨ho.1, ?_⟩
    rcases ho.2 with h0 | ⟨g, cap, cur, rfl, hB, hg, r⟩
    · exact .inl h0
    · exact .inr ⟨g, cap, cur, rfl, hB, by rw [hk g hB (hh g rfl)]; exact hg, r⟩
  refine ⟨vals, a, key b e', fun i s hx => ?_, d, e', f⟩
  obtain ⟨u, hu, ho⟩ := c i s hx
  exact ⟨u, hu, key ho (f i _ · hu)⟩
theorem OwnHE.below {w w' : World} {lo hi : Nat} {v : Value} {e : Er} (h : OwnHE w lo hi v e) (hb : Below hi w w') : OwnHE w' lo hi v e := h.keep fun b _ hb' => hb.block b hb'
theorem OwnHE.chg {C : Nat → Prop} {w w' : World} {lo hi : Nat} {v : Value} {e : Er} (h : OwnHE w lo hi v e) (hb : Chg C w w') (hh : hi ≤ w.heap.size) (hC : ∀ k, lo ≤ k → k < hi → ¬ C k) : OwnHE w' lo hi v e :=
  h.keep fun b h1 h2 => hb.block b (by omega) (hC b h1 h2)
/-- The types of a node's cells and of its parts' differ, so that their blocks do. -/
theorem blocks_ne {w : World} {lo n m c : Nat} {g k : Nat} {u : Value} {xs ys : List Value} (ho : w.ownsRow lo 55 3 (.slice (some ⟨g, 0, none⟩) n c) n xs) (hn : 0 < n) (hu : w.ownsRow lo 3 1 u m ys) (hk : u.ownBlock = some k) : g ≠ k := by
  rintro rfl
  rcases ho.2 with ⟨h1, h0⟩ | ⟨g1, c1, cur1, h1, _, hh1, _⟩
  · omega
  · rcases hu.2 with ⟨h2, _⟩ | ⟨g2, c2, cur2, h2, _, hh2, _⟩
    · rw [h2] at hk; cases hk
    · rw [h2] at hk
      obtain rfl : g2 = g := by simpa [Value.ownBlock] using hk
      simp only [Value.slice.injEq, Option.some.injEq, Addr.mk.injEq, true_and, and_true] at h1
      obtain ⟨rfl, _⟩ := h1
      rw [hh1] at hh2
      injection hh2 with hh2
      injection hh2 with _ ht
      exact absurd ht (by decide)
/-- One error: where it lies, the errors with other kind and code at it, and with other parts at it. -/
theorem OwnHE.head {w : World} {lo hi n c : Nat} {A : Option Addr} {e : Er} {i : Nat} {s : En} (h : OwnHE w lo hi (.slice A n c) e) (hx : e[i]? = some s) :
    ∃ g, A = some ⟨g, 0, none⟩ ∧ lo ≤ g ∧ g < hi ∧ w.cell? ⟨g, i * 3, none⟩ = some (.int .i64 s.1) ∧ w.cell? ⟨g, i * 3 + 1, none⟩ = some (.int .i64 s.2.1) ∧ (∀ o, w.frozen? ⟨g, o, none⟩ = false) ∧
      ∀ k d : Int, OwnHE ((w.setCell ⟨g, i * 3, none⟩ (.int .i64 k)).setCell ⟨g, i * 3 + 1, none⟩ (.int .i64 d)) lo hi (.slice A n c) (e.set i (k, d, s.2.2)) := by
  obtain ⟨vals, hl, ho, hr, hd, he, hf⟩ := h
  have hi' : i < e.length := (List.getElem?_eq_some_iff.1 hx).1
  obtain ⟨u, hu, hown⟩ := hr i s hx
  rcases own_form ho with ⟨h0, _⟩ | ⟨_, g, cap, hv, hlo, hg⟩
  · omega
  · simp only [Value.slice.injEq] at hv
    obtain ⟨rfl, rfl, rfl⟩ := hv
    obtain ⟨c0, c1, c2⟩ := cellsN_at vals i _ hu
    refine ⟨g, rfl, hlo, he g rfl, (ho.cellAt _ (by omega)).trans c0, (ho.cellAt _ (by omega)).trans c1, fun o => ho.frozenAt o, fun k d => ?_⟩
    have st := ((ho.stored (i * 3) (.int .i64 k)).1.stored (i * 3 + 1) (.int .i64 d)).1
    rw [cellsN_set2 vals i _ k d hu] at st
    refine ⟨vals.set i (k, d, u), by simpa using hl, by rw [List.length_set]; exact st, fun j z hz => ?_, fun j j' x x' b hj hj' hb hb' => ?_, he, fun j x b hj hb => ?_⟩
    · have far : ∀ {m : Nat} {x : Value} {ys : List Value}, w.ownsRow lo 3 1 x m ys → ((w.setCell ⟨g, i * 3, none⟩ (.int .i64 k)).setCell ⟨g, i * 3 + 1, none⟩ (.int .i64 d)).ownsRow lo 3 1 x m ys := fun {m x ys} hxo => by
        have hne : x.ownBlock ≠ some g := fun hk => blocks_ne ho (by omega) hxo hk rfl
        exact own_far (own_far hxo ⟨g, i * 3, none⟩ _ hne) ⟨g, i * 3 + 1, none⟩ _ hne
      by_cases hij : i = j
      · subst hij
        obtain rfl : (k, d, s.2.2) = z := by simpa [hi'] using hz
        exact ⟨u, by rw [List.getElem?_set_self (by omega)], far hown⟩
      · rw [List.getElem?_set_ne hij] at hz
        obtain ⟨u', hu', ho'⟩ := hr j z hz
        exact ⟨u', by rw [List.getElem?_set_ne hij]; exact hu', far ho'⟩
    · have key : ∀ (q : Nat) (y : Cn), (vals.set i (k, d, u))[q]? = some y → ∃ y', vals[q]? = some y' ∧ y'.2.2 = y.2.2 := fun q y hq => by
        by_cases hiq : i = q
        · subst hiq
          rw [List.getElem?_set_self (by omega)] at hq
          obtain rfl : (k, d, u) = y := by simpa using hq
          exact ⟨_, hu, rfl⟩
        · rw [List.getElem?_set_ne hiq] at hq
          exact ⟨y, hq, rfl⟩
      obtain ⟨y, hy, e1⟩ := key j x hj
      obtain ⟨y', hy', e2⟩ := key j' x' hj'
      exact hd j j' y y' b hy hy' (by rw [e1]; exact hb) (by rw [e2]; exact hb')
    · by_cases hij : i = j
      · subst hij
        rw [List.getElem?_set_self (by omega)] at hj
        obtain rfl : (k, d, u) = x := by simpa using hj
        exact hf i _ b hu hb
      · rw [List.getElem?_set_ne hij] at hj
        exact hf j x b hj hb
theorem OwnHE.row {w : World} {lo hi n c : Nat} {A : Option Addr} {e : Er} {i : Nat} {s : En} (h : OwnHE w lo hi (.slice A n c) e) (hx : e[i]? = some s) :
    ∃ g Ai ci, A = some ⟨g, 0, none⟩ ∧ w.cell? ⟨g, i * 3 + 2, none⟩ = some (.slice Ai s.2.2.length ci) ∧ w.ownsRow lo 3 1 (.slice Ai s.2.2.length ci) s.2.2.length (cellsI s.2.2) ∧
      (∀ k, (Value.slice Ai s.2.2.length ci).ownBlock = some k → lo ≤ k ∧ k < hi ∧ k ≠ g) ∧
      ∀ (w' : World) (ys : List Int), ys.length = s.2.2.length → w'.ownsRow lo 3 1 (.slice Ai s.2.2.length ci) s.2.2.length (cellsI ys) →
        Chg (fun b => (Value.slice Ai s.2.2.length ci).ownBlock = some b) w w' → OwnHE w' lo hi (.slice A n c) (e.set i (s.1, s.2.1, ys)) := by
  obtain ⟨vals, hl, ho, hr, hd, he, hf⟩ := h
  have hi' : i < e.length := (List.getElem?_eq_some_iff.1 hx).1
  obtain ⟨u, hu, hown⟩ := hr i s hx
  obtain ⟨Ai, ci, rfl⟩ := own_slice hown
  rcases own_form ho with ⟨h0, _⟩ | ⟨_, g, cap, hv, _, hg⟩
  · omega
  · simp only [Value.slice.injEq] at hv
    obtain ⟨rfl, rfl, rfl⟩ := hv
    obtain ⟨c0, c1, c2⟩ := cellsN_at vals i _ hu
    refine ⟨g, Ai, ci, rfl, (ho.cellAt _ (by omega)).trans c2, hown, fun k hk => ⟨(hown.lt k hk).1, hf i _ k hu hk, fun e => blocks_ne ho (by omega) hown hk e.symm⟩, fun w' ys hy hown' hch => ?_⟩
    refine ⟨vals, by simpa using hl, ?_, fun j z hz => ?_, hd, he, hf⟩
    · rw [List.length_set]
      exact own_chg ho hch (fun k hk hk' => blocks_ne ho (by omega) hown hk' (by simpa [Value.ownBlock] using hk))
    · by_cases hij : i = j
      · subst hij
        obtain rfl : (s.1, s.2.1, ys) = z := by simpa [hi'] using hz
        rw [hy]
        exact ⟨_, hu, hown'⟩
      · rw [List.getElem?_set_ne hij] at hz
        obtain ⟨u', hu', ho'⟩ := hr j z hz
        exact ⟨u', hu', own_chg ho' hch (fun k hk hk' => hij (hd i j _ _ k hu hu' hk' hk))⟩
theorem infoNode : (Try.prog.info? 55).map (fun i => (i.zero, i.size, i.bytes)) = some (some (.agg #[.int .i64 0, .int .i64 0, .slice none 0 0]), 3, 40) := by kernel_rfl
/-- What functions of errors return: integers of the call's own, a number, a bool; each with a bool. -/
def IntsR (r : List Int × Bool) (w : World) (e : Ending) (w' : World) : Prop :=
  ∃ A c, e = .returned (.tuple #[.slice A r.1.length c, .bool r.2]) ∧ OwnI w' w.heap.size (.slice A r.1.length c) r.1 ∧ Below w.heap.size w w'
def NumR (r : Int × Bool) (w : World) (e : Ending) (w' : World) : Prop :=
  e = .returned (.tuple #[.int .i64 r.1, .bool r.2]) ∧ Below w.heap.size w w'
def BoolR (r : Bool × Bool) (w : World) (e : Ending) (w' : World) : Prop :=
  e = .returned (.tuple #[.bool r.1, .bool r.2]) ∧ Below w.heap.size w w'
end Go.Proofs.Ytkjgibhckcdneaa.ErM
