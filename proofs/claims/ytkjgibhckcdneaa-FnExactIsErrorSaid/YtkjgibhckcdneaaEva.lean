/- impl.valuesOf makes the errors of Go that stand for valid Errors. -/
import Derived.Test.YtkjgibhckcdneaaEvj
import Derived.Test.YtkjgibhckcdneaaEio
namespace Go.Proofs.Ytkjgibhckcdneaa.ErI
set_option linter.unusedVariables false
set_option linter.unusedSimpArgs false
open Go.ChangeShapes Go.WideShapes Go.ChangeAt Go.RowKit
open Mem IntsP ErP ErM ErT ErA ErU ErD ErW ErL ErF ErQ

theorem vo_any (u : Nat → Value) (hu : ∀ q, ∃ ty pv, u q = .iface ty pv) (p : Er) (hok : okErr p = true) (i : Nat) (k d : Int) (ps : List Int) (hs : p[i]? = some (k, d, ps)) (n gv : Nat) (hl : p.length = n) (Ai : Option Addr) (ci : Nat) (hci : ps.length ≤ ci) (w : World)
    (hr : RdI w w.heap.size Ai ps) (hg : gv < w.heap.size) (hv : ∀ q, i < q → q < n → w.cell? ⟨gv, q, none⟩ = some (u q)) :
    Calls Try.prog 77 #[.agg #[.int .i64 k, .int .i64 d, .slice Ai ps.length ci], .int .i64 i, .slice (some ⟨gv, 0, none⟩) n n] w (OneR u i (k, d, ps) w) := by
  have hn : n ≤ 12 := by rw [← hl]; exact ((okErr_iff p).1 hok).2.1
  rcases ok_kind hok hs with ⟨h1, h2⟩ | ⟨h1, h2⟩ | ⟨h1, h2⟩ | ⟨h1, h2⟩ <;> dsimp only at h1 h2
  · subst h1; subst h2
    exact vo_plain u i n gv d Ai ci w
  · subst h1
    match ps, h2, hs, hr with
    | [a], _, hs, hr =>
      obtain ⟨q, rfl, h3, h4⟩ := ok_part (j := 0) hok hs rfl
      rw [hl] at h4
      exact vo_wrap u hu i n gv q d Ai ci w hr h4 hn hg (hv q h3 h4)
  · subst h1
    exact vo_join u hu i n gv d Ai ci ps.length ps rfl (ok_many hok hs) h2 hci hn w hr hg (fun j q0 hq => by
      obtain ⟨q, h3, h4, h5⟩ := ok_part hok hs hq
      rw [hl] at h5
      exact ⟨q, h3, h5, hv q h4 h5⟩)
  · subst h1; subst h2
    exact vo_like u i n gv d Ai ci w
theorem valE_iface (e : Er) (bs : Nat → Nat) (q : Nat) : ∃ ty pv, valE e bs q = .iface ty pv := ⟨_, _, rfl⟩
theorem OneV.chg {C : Nat → Prop} {u u' : Nat → Value} {i lo b : Nat} {s : En} {w w' : World} (h : OneV u i s lo w b) (hc : Chg C w w') (hC : ∀ x, lo ≤ x → ¬ C x)
    (hu : ∀ (j : Nat) (q : Nat), s.2.2[j]? = some (q : Int) → u' q = u q) : OneV u' i s lo w' b := by
  have hb : ¬ C b := hC b h.low
  obtain ⟨cs, ty, h1, h2⟩ := h.blk
  refine ⟨h.low, ⟨cs, ty, h1.chg hc hb, h2⟩, fun hk => ?_, fun hk => ?_⟩
  · obtain ⟨p, h3, h4⟩ := h.wrap hk
    exact ⟨p, h3, by rw [hu 0 p h3]; exact (hc.cell (p := ⟨b, 2, none⟩) h1.lt hb).trans h4⟩
  · obtain ⟨A, c, hlA, h3, h4, h5⟩ := h.join hk
    refine ⟨A, c, hlA, Nat.lt_of_lt_of_le h3 hc.size, (hc.cell (p := ⟨b, 3, none⟩) h1.lt hb).trans h4, fun j p hp => ?_⟩
    have hm : (p : Int) ∈ s.2.2 := by
      have := List.mem_of_getElem? hp
      rw [once_mem, List.take_length] at this
      exact this
    obtain ⟨j', hj'⟩ := List.getElem?_of_mem hm
    rw [hu j' p hj']
    exact (hc.cell (by rw [block_of_add]; exact h3) (by rw [block_of_add]; exact hC _ hlA)).trans (h5 j p hp)

theorem OneV.lower {u : Nat → Value} {i lo lo' b : Nat} {s : En} {w : World} (h : OneV u i s lo w b) (hl : lo' ≤ lo) : OneV u i s lo' w b :=
  ⟨Nat.le_trans hl h.low, h.blk, h.wrap, fun hk => by
    obtain ⟨A, c, h1, h2⟩ := h.join hk
    exact ⟨A, c, Nat.le_trans hl h1, h2⟩⟩
def rowV (e : Er) (bs : Nat → Nat) (n k : Nat) : List Value := (List.range n).map (fun z => if k ≤ z then valE e bs z else .nilIface)
theorem rowV_at {e : Er} {bs : Nat → Nat} {n k z : Nat} (hz : z < n) : (rowV e bs n k)[z]? = some (if k ≤ z then valE e bs z else .nilIface) := by
  unfold rowV; rw [List.getElem?_map, List.getElem?_range hz]; rfl
theorem rowV_len (e : Er) (bs : Nat → Nat) (n k : Nat) : (rowV e bs n k).length = n := by simp [rowV]
theorem rowV_new (e : Er) (bs : Nat → Nat) (n : Nat) : rowV e bs n n = List.replicate n .nilIface := by
  apply List.ext_getElem?
  intro j
  by_cases hj : j < n
  · rw [rowV_at hj, if_neg (by omega)]; simp [hj]
  · rw [List.getElem?_eq_none (by rw [rowV_len]; omega), List.getElem?_eq_none (by simp; omega)]
def putB (bs : Nat → Nat) (k b : Nat) (z : Nat) : Nat := if z = k then b else bs z
theorem putB_self (bs : Nat → Nat) (k b : Nat) : putB bs k b k = b := if_pos rfl
theorem putB_ne (bs : Nat → Nat) {k b z : Nat} (h : z ≠ k) : putB bs k b z = bs z := if_neg h
theorem valE_ne (e : Er) (bs : Nat → Nat) {k b z : Nat} (h : z ≠ k) : valE e (putB bs k b) z = valE e bs z := by unfold valE; rw [putB_ne bs h]
theorem rowV_next {e : Er} {bs : Nat → Nat} {n k b : Nat} (hk : k < n) : (rowV e bs n (k + 1)).set k (valE e (putB bs k b) k) = rowV e (putB bs k b) n k := by
  apply List.ext_getElem?
  intro j
  by_cases hj : j < n
  · by_cases hkj : k = j
    · subst hkj
      rw [List.getElem?_set_self (by rw [rowV_len]; exact hk), rowV_at hk, if_pos (Nat.le_refl _)]
    · rw [List.getElem?_set_ne hkj, rowV_at hj, rowV_at hj]
      by_cases h1 : k ≤ j
      · rw [if_pos h1, if_pos (by omega), valE_ne e bs (by omega)]
      · rw [if_neg h1, if_neg (by omega)]
  · rw [List.getElem?_eq_none (by rw [List.length_set, rowV_len]; omega), List.getElem?_eq_none (by rw [rowV_len]; omega)]
theorem madeN (n : Nat) : (madeCells #[Value.nilIface] (n * 1)).toList = List.replicate n .nilIface := by
  apply List.ext_getElem?
  intro j
  rw [Array.getElem?_toList]
  have := size_madeCells #[Value.nilIface] (n * 1)
  simp at this
  by_cases hj : j < n
  · rw [Array.getElem?_eq_getElem (by rw [Nat.mul_one] at *; omega)]
    simp [madeCells, hj, Nat.mod_one]
  · rw [Array.getElem?_eq_none (by rw [Nat.mul_one] at *; omega), List.getElem?_eq_none (by simp; omega)]
theorem row_new {w : World} {n : Nat} (hn : n ≤ 2000000) (e : Er) (bs : Nat → Nat) : (w.alloc (.cells (madeCells #[Value.nilIface] n) 76)).ownsRow w.heap.size 76 1 (.slice (some ⟨w.heap.size, 0, none⟩) n n) n (rowV e bs n n) := by
  have := World.ownsRow_lit (base := w.heap.size) (e := 76) (size := 1) w (madeCells #[Value.nilIface] n) n (Nat.le_refl _) (by unfold maxLen; omega) (by have := size_madeCells #[Value.nilIface] (n * 1); rw [Nat.mul_one] at this; simpa using this)
  have h1 := madeN n
  rw [Nat.mul_one] at h1
  rw [h1] at this
  rw [rowV_new]
  exact this
end Go.Proofs.Ytkjgibhckcdneaa.ErI
