/- One error more ahead of all others, over lists; errors of the call's own with one more behind them. -/
import Derived.Test.YtkjgibhckcdneaaErah
namespace Go.Proofs.Ytkjgibhckcdneaa.ErF
set_option linter.unusedVariables false
set_option linter.unusedSimpArgs false
open Go.ChangeShapes Go.WideShapes Go.ChangeAt Go.RowKit
open Mem IntsP ErP ErM ErT ErA ErU ErD ErW ErL

def nodeF (F : Int → Int) (s : En) : En := (s.1, s.2.1, s.2.2.map F)
def aheadE (e : Er) (s : En) : Er := nodeF nx s :: e.map (nodeF nx)
def firstR (e : Er) (s : En) : Er × Bool := if okErr e && okErr (aheadE e s) then (aheadE e s, true) else ([], false)
theorem aheadE_length (e : Er) (s : En) : (aheadE e s).length = e.length + 1 := by simp [aheadE]
theorem ahead_take {e : Er} {s t : En} {k : Nat} (h : e[k]? = some t) : nodeF nx s :: (e.take (k + 1)).map (nodeF nx) = (nodeF nx s :: (e.take k).map (nodeF nx)) ++ [nodeF nx t] := by
  rw [List.take_add_one, h]; simp
def ErrR (r : Er × Bool) (w : World) (e : Ending) (w' : World) : Prop :=
  ∃ A c, e = .returned (.tuple #[.agg #[.slice A r.1.length c], .bool r.2]) ∧ OwnE w' w.heap.size (.slice A r.1.length c) r.1 ∧ Below w.heap.size w w'

/-- Errors of one's own with one more: the row has it, and its parts lie in a block that is newer than all that were. -/
theorem own_push {C : Nat → Prop} {w w' : World} {lo : Nat} {v' : Value} {q : Er} {vals : List Cn} {s : En} {u : Value} (hl : vals.length = q.length)
    (hr : ∀ (i : Nat) (t : En), q[i]? = some t → ∃ x, vals[i]? = some (t.1, t.2.1, x) ∧ w.ownsRow lo 3 1 x t.2.2.length (cellsI t.2.2))
    (hd : ∀ (i j : Nat) (x x' : Cn) (k : Nat), vals[i]? = some x → vals[j]? = some x' → x.2.2.ownBlock = some k → x'.2.2.ownBlock = some k → i = j)
    (hc : Chg C w w') (hvr : ∀ (i : Nat) (x : Cn) (k : Nat), vals[i]? = some x → x.2.2.ownBlock = some k → ¬ C k)
    (ho : w'.ownsRow lo 55 3 v' (q.length + 1) (cellsN (vals ++ [(s.1, s.2.1, u)])))
    (hu : w'.ownsRow lo 3 1 u s.2.2.length (cellsI s.2.2)) (hn : ∀ k, u.ownBlock = some k → w.heap.size ≤ k) : OwnE w' lo v' (q ++ [s]) := by
  have old : ∀ (i : Nat) (x : Cn) (k : Nat), vals[i]? = some x → x.2.2.ownBlock = some k → k < w.heap.size := by
    intro i x k hx hk
    have hi : i < q.length := by have := (List.getElem?_eq_some_iff.1 hx).1; omega
    obtain ⟨y, hy, hoy⟩ := hr i _ (List.getElem?_eq_getElem hi)
    obtain rfl : x = _ := Option.some.inj (hx.symm.trans hy)
    exact (hoy.lt k hk).2
  refine ⟨vals ++ [(s.1, s.2.1, u)], by simp [hl], by simpa using ho, fun i t ht => ?_, fun i j x x' k hx hx' hk hk' => ?_⟩
  · rcases Nat.lt_trichotomy i q.length with hi | hi | hi
    · rw [List.getElem?_append_left hi] at ht
      obtain ⟨x, hx, hox⟩ := hr i t ht
      exact ⟨x, by rw [List.getElem?_append_left (by omega)]; exact hx, own_chg hox hc (fun k hk h => hvr i _ k hx hk h)⟩
    · subst hi
      rw [List.getElem?_append_right (Nat.le_refl _), Nat.sub_self] at ht
      obtain rfl : s = t := by simpa using ht
      exact ⟨u, by rw [List.getElem?_append_right (by omega), hl, Nat.sub_self]; rfl, hu⟩
    · rw [List.getElem?_eq_none (by simp; omega)] at ht; cases ht
  · have at_ : ∀ (i : Nat) (x : Cn), (vals ++ [(s.1, s.2.1, u)])[i]? = some x → (i < q.length ∧ vals[i]? = some x) ∨ (i = q.length ∧ x = (s.1, s.2.1, u)) := by
      intro i x hv
      rcases Nat.lt_trichotomy i q.length with hi | hi | hi
      · rw [List.getElem?_append_left (by omega)] at hv
        exact .inl ⟨hi, hv⟩
      · subst hi
        rw [List.getElem?_append_right (by omega), hl, Nat.sub_self] at hv
        exact .inr ⟨rfl, by simpa using hv.symm⟩
      · rw [List.getElem?_eq_none (by simp; omega)] at hv
        cases hv
    rcases at_ i x hx with ⟨hi, h1⟩ | ⟨rfl, rfl⟩ <;> rcases at_ j x' hx' with ⟨hj, h2⟩ | ⟨rfl, rfl⟩
    · exact hd i j x x' k h1 h2 hk hk'
    · have := old i x k h1 hk; have := hn k hk'; omega
    · have := old j x' k h2 hk'; have := hn k hk; omega
    · rfl
/-- Errors that grow in a box. -/
structure Fs (w2 : World) (lo h0 bm : Nat) (v : Value) (q : Er) (wr : World) : Prop where
  own : OwnE wr lo v q
  box : Blk wr bm 29 #[v]
  at_ : ∀ k, v.ownBlock = some k → k = h0 ∨ w2.heap.size ≤ k
  chg : Chg (fun b => b = bm ∨ b = h0) w2 wr
theorem node_own {V : World} {g : Nat} {a b : Int} {u : Value} (h : V.heap[g]? = some (.cells #[.int .i64 a, .int .i64 b, u] 55)) : V.ownsRow 0 55 3 (.slice (some ⟨g, 0, none⟩) 1 1) 1 [.int .i64 a, .int .i64 b, u] :=
  ⟨by simp, .inr ⟨g, 1, #[.int .i64 a, .int .i64 b, u], rfl, Nat.zero_le _, h, Nat.le_refl _, by decide, by simp, by simp⟩⟩
/-- Errors in a box with one more, behind an append and a store. -/
theorem Fs.push {w3 W w6 : World} {lo h0 bm : Nat} {v v2 : Value} {q : Er} {s : En} {u : Value} {vals : List Cn} (h : Fs w3 lo h0 bm v q W) (hl : vals.length = q.length) (hv : W.ownsRow lo 55 3 v q.length (cellsN vals))
    (hr : ∀ (i : Nat) (t : En), q[i]? = some t → ∃ x, vals[i]? = some (t.1, t.2.1, x) ∧ W.ownsRow lo 3 1 x t.2.2.length (cellsI t.2.2))
    (hd : ∀ (i j : Nat) (x x' : Cn) (k : Nat), vals[i]? = some x → vals[j]? = some x' → x.2.2.ownBlock = some k → x'.2.2.ownBlock = some k → i = j)
    (hc : Chg (fun b => v.ownBlock = some b) W w6) (ha : v2.ownBlock = v.ownBlock ∨ ∃ g, v2.ownBlock = some g ∧ W.heap.size ≤ g) (hb3 : bm < w3.heap.size)
    (ho : w6.ownsRow lo 55 3 v2 (q.length + 1) (cellsN (vals ++ [(s.1, s.2.1, u)]))) (hu : w6.ownsRow lo 3 1 u s.2.2.length (cellsI s.2.2)) (hn : ∀ k, u.ownBlock = some k → W.heap.size ≤ k) :
    Fs w3 lo h0 bm v2 (q ++ [s]) (w6.setCell ⟨bm, 0, none⟩ v2) := by
  have hbl := h.box.lt
  have hvb : v.ownBlock ≠ some bm := App.own_blk_ne hv h.box (by decide)
  have hv2 : v2.ownBlock ≠ some bm := by
    rcases ha with ha | ⟨g, ha, hg⟩
    · rw [ha]; exact hvb
    · rw [ha]; intro e; have : g = bm := by simpa using e
      omega
  have hub : u.ownBlock ≠ some bm := fun e => by have := hn bm e; omega
  have hc2 : Chg (fun b => b = bm ∨ v.ownBlock = some b) W (w6.setCell ⟨bm, 0, none⟩ v2) := (hc.mono (fun _ _ h => .inr h)).put ⟨bm, 0, none⟩ v2 (.inr (.inl rfl))
  refine ⟨own_push hl hr hd hc2 (fun i x k hx hk hC => ?_) (own_far ho ⟨bm, 0, none⟩ _ hv2) (own_far hu ⟨bm, 0, none⟩ _ hub) hn, (h.box.chg hc (by intro e; exact hvb e)).put 0 v2, fun k hk => ?_, h.chg.trans hc2 (fun x hx hC => ?_)⟩
  · have hi : i < q.length := by have := (List.getElem?_eq_some_iff.1 hx).1; omega
    obtain ⟨y, hy, hoy⟩ := hr i _ (List.getElem?_eq_getElem hi)
    obtain rfl : x = _ := Option.some.inj (hx.symm.trans hy)
    rcases hC with rfl | hC
    · exact App.own_blk_ne hoy h.box (by decide) hk
    · exact App.own_ne hv hoy (by decide) hC hk
  · rcases ha with ha | ⟨g, ha, hg⟩
    · exact h.at_ k (by rw [← ha]; exact hk)
    · rw [ha] at hk
      have : g = k := by simpa using hk
      have := h.chg.size
      omega
  · rcases hC with hC | hC
    · exact .inl hC
    · rcases h.at_ x hC with h1 | h1
      · exact .inr h1
      · omega
theorem own_one {w : World} {g lo : Nat} {s : En} {u : Value} (h : w.heap[g]? = some (.cells #[.int .i64 s.1, .int .i64 s.2.1, u] 55)) (hg : lo ≤ g) (hu : w.ownsRow lo 3 1 u s.2.2.length (cellsI s.2.2)) : OwnE w lo (.slice (some ⟨g, 0, none⟩) 1 1) [s] := by
  refine ⟨[(s.1, s.2.1, u)], rfl, ⟨by simp [cellsN, cN], .inr ⟨g, 1, #[.int .i64 s.1, .int .i64 s.2.1, u], rfl, hg, h, Nat.le_refl _, by decide, by simp, by simp [cellsN, cN]⟩⟩, fun i t ht => ?_, fun i j x x' k hx hx' _ _ => ?_⟩
  · have hi : i < 1 := by simpa using (List.getElem?_eq_some_iff.1 ht).1
    obtain rfl : i = 0 := by omega
    obtain rfl : s = t := by simpa using ht
    exact ⟨u, rfl, hu⟩
  · have hi : i < 1 := by simpa using (List.getElem?_eq_some_iff.1 hx).1
    have hj : j < 1 := by simpa using (List.getElem?_eq_some_iff.1 hx').1
    omega
end Go.Proofs.Ytkjgibhckcdneaa.ErF
