import Derived.Test.YtdmcgkcpclepfaaKrp
set_option linter.all false
namespace Go.Proofs.Ytdmcgkcpclepfaa.Rnp
open PL Res CalP ReaP Nup SetM SortP Krp
def ordU (xs : List Int) (n : Nat) : Nat → Bool
 | 0 => true
 | k + 1 => ordU xs n k && (match xs[k]? with
  | some x => decide (0 ≤ x ∧ x < n) && !((xs.take k).contains x)
  | none => true)
def ordB (xs : List Int) (n : Nat) : Bool := ordU xs n xs.length && decide (xs.length = n)
theorem ordU_next {xs : List Int} {n k : Nat} {x : Int} (h : xs[k]? = some x) : ordU xs n (k + 1) = (ordU xs n k && (decide (0 ≤ x ∧ x < n) && !((xs.take k).contains x))) := by rw [ordU, h]
theorem ordU_no {xs : List Int} {n k : Nat} (h : ordU xs n k = false) : ∀ d, ordU xs n (k + d) = false
 | 0 => h
 | d + 1 => by
  have ih := ordU_no h d
  rw [show k + (d + 1) = (k + d) + 1 by omega, ordU, ih, Bool.false_and]
theorem ordB_no {xs : List Int} {n k : Nat} (h : ordU xs n k = false) (hk : k ≤ xs.length) : ordB xs n = false := by
 have := ordU_no h (xs.length - k)
 rw [show k + (xs.length - k) = xs.length by omega] at this
 unfold ordB
 rw [this, Bool.false_and]
theorem ordU_iff {xs : List Int} {n : Nat} : ∀ k, k ≤ xs.length → (ordU xs n k = true ↔ (xs.take k).Nodup ∧ Rng n (xs.take k))
 | 0, _ => by
  rw [List.take_zero]
  exact ⟨fun _ => ⟨List.Pairwise.nil, fun x hx => by cases hx⟩, fun _ => rfl⟩
 | k + 1, h => by
  have ih := ordU_iff (xs := xs) (n := n) k (by omega)
  have hx := List.getElem?_eq_getElem (show k < xs.length by omega)
  generalize xs[k] = x at *
  rw [ordU_next hx, Bool.and_eq_true, ih, Bool.and_eq_true, decide_eq_true_eq, Bool.not_eq_true', List.take_add_one, hx, Option.toList_some, List.nodup_append]
  constructor
  ·rintro ⟨⟨h1, h2⟩, h3, h4⟩
   refine ⟨⟨h1, List.pairwise_singleton _ _, fun a ha b hb e => ?_⟩, fun y hy => ?_⟩
   ·obtain rfl := List.mem_singleton.1 hb
    subst e
    rw [List.contains_iff_mem.2 ha] at h4
    cases h4
   ·rcases List.mem_append.1 hy with hy | hy
    ·exact h2 y hy
    ·obtain rfl := List.mem_singleton.1 hy
     exact h3
  ·rintro ⟨⟨h1, _, h3⟩, h4⟩
   refine ⟨⟨h1, fun y hy => h4 y (List.mem_append_left _ hy)⟩, h4 x (List.mem_append_right _ (List.mem_singleton.2 rfl)), ?_⟩
   cases hc : (xs.take k).contains x with
   | false => rfl
   | true => exact absurd rfl (h3 x (List.contains_iff_mem.1 hc) x (List.mem_singleton.2 rfl))
theorem ordB_iff {xs : List Int} {n : Nat} : ordB xs n = true ↔ xs.length = n ∧ xs.Nodup ∧ Rng n xs := by
 have h := ordU_iff (xs := xs) (n := n) xs.length (Nat.le_refl _)
 rw [List.take_length] at h
 unfold ordB
 rw [Bool.and_eq_true, decide_eq_true_eq, h]
 exact ⟨fun ⟨a, b⟩ => ⟨b, a⟩, fun ⟨a, b⟩ => ⟨b, a⟩⟩
theorem asc_ge : ∀ (l : List Int) (a : Int), Asc l → (∀ x ∈ l, a ≤ x) → ∀ (i : Nat) (y : Int), l[i]? = some y → a + i ≤ y
 | [], _, _, _, i, y, hy => by simp at hy
 | x :: l, a, h, hr, i, y, hy => by
  have h1 := List.pairwise_cons.1 h
  have hx := hr x List.mem_cons_self
  cases i with
  | zero =>
   obtain rfl : x = y := by simpa using hy
   simpa using hx
  | succ i =>
   have ih := asc_ge l (x + 1) h1.2 (fun z hz => by have := h1.1 z hz; omega) i y (by simpa using hy)
   omega
theorem asc_up : ∀ (l : List Int) (b : Int), Asc l → (∀ x ∈ l, x < b) → ∀ (i : Nat) (y : Int), l[i]? = some y → y + ((l.length : Int) - i) ≤ b
 | [], _, _, _, i, y, hy => by simp at hy
 | x :: l, b, h, hr, i, y, hy => by
  have h1 := List.pairwise_cons.1 h
  cases i with
  | zero =>
   obtain rfl : x = y := by simpa using hy
   have h2 := asc_len l (x + 1) b h1.2 (fun z hz => ⟨by have := h1.1 z hz; omega, hr z (List.mem_cons_of_mem _ hz)⟩)
   have h3 := hr x List.mem_cons_self
   rw [List.length_cons]
   omega
  | succ i =>
   have ih := asc_up l b h1.2 (fun z hz => hr z (List.mem_cons_of_mem _ hz)) i y (by simpa using hy)
   rw [List.length_cons]
   omega
def iotaB (xs : List Int) (n : Nat) : Prop := xs.length = n ∧ ∀ i, i < n → (sortI xs)[i]? = some (i : Int)
theorem ord_iota {xs : List Int} {n : Nat} : ordB xs n = true ↔ iotaB xs n := by
 rw [ordB_iff]
 constructor
 ·rintro ⟨h1, h2, h3⟩
  refine ⟨h1, fun i hi => ?_⟩
  have ha := sortI_asc h2
  have hl := sortI_len xs
  have hx := List.getElem?_eq_getElem (show i < (sortI xs).length by omega)
  generalize (sortI xs)[i] = y at *
  have g1 := asc_ge _ 0 ha (fun z hz => (h3 z (sortI_mem.1 hz)).1) i y hx
  have g2 := asc_up _ n ha (fun z hz => (h3 z (sortI_mem.1 hz)).2) i y hx
  rw [hx]
  congr 1
  omega
 ·rintro ⟨h1, h2⟩
  have hl := sortI_len xs
  refine ⟨h1, (List.mergeSort_perm xs _).nodup_iff.1 (show (sortI xs).Nodup from ?_), fun x hx => ?_⟩
  ·unfold List.Nodup
   rw [List.pairwise_iff_getElem]
   intro i j hi hj hij e
   have e1 := h2 i (by omega)
   have e2 := h2 j (by omega)
   rw [List.getElem?_eq_getElem hi] at e1
   rw [List.getElem?_eq_getElem hj] at e2
   simp only [Option.some.injEq] at e1 e2
   omega
  ·obtain ⟨i, hi⟩ := List.getElem?_of_mem (sortI_mem.2 hx)
   have hlt := (List.getElem?_eq_some_iff.1 hi).1
   rw [h2 i (by omega)] at hi
   simp only [Option.some.injEq] at hi
   omega
theorem many_ord {xs : List Int} {n : Nat} (h : ordB xs n = true) : manyU xs n = (n : Int) := by
 obtain ⟨h1, h2, h3⟩ := ordB_iff.1 h
 have g1 := @manyU_le xs (n : Int) (fun i t ht => (h3 t (List.mem_of_getElem? ht)).2) (by omega) n
 have g0 := manyU_pos xs n
 by_cases hlt : manyU xs n < n
 ·exfalso
  have h4 := nodup_len (n := (manyU xs n).toNat) h2 (fun x hx => by
   obtain ⟨i, hi⟩ := List.getElem?_of_mem hx
   have hil := (List.getElem?_eq_some_iff.1 hi).1
   have := manyU_ge hi n (by omega)
   exact ⟨(h3 x hx).1, by omega⟩)
  omega
 ·omega
def renR (p : Pg) (tn : List Int) : Pg × Bool := if (okProg p && ordB tn p.length) = true then (numU p tn p.length p.length, true) else ([], false)
theorem renR_no {p : Pg} {tn : List Int} (h : (okProg p && ordB tn p.length) = false) : renR p tn = ([], false) := by unfold renR; rw [h]; rfl
theorem renR_yes {p : Pg} {tn : List Int} {n : Nat} (h : okProg p = true) (hl : p.length = n) (ho : ordB tn n = true) : renR p tn = (numU p tn n n, true) := by subst hl; unfold renR; rw [h, ho]; rfl
end Go.Proofs.Ytdmcgkcpclepfaa.Rnp
-- squeezed
