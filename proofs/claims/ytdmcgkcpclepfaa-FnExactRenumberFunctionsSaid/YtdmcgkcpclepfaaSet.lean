import Derived.Lib.SlicesCompact
set_option linter.all false
namespace Go.Proofs.Ytdmcgkcpclepfaa.PL
def kOf (l : List Int) (n : Int) : Nat := (l.takeWhile (fun x => decide (x < n))).length
def putS (l : List Int) (n : Int) : List Int := if l[kOf l n]? = some n then l else l.take (kOf l n) ++ [n] ++ l.drop (kOf l n)
def setS (l : List Int) : List Int := l.foldl putS []
theorem setS_snoc (l : List Int) (n : Int) : setS (l ++ [n]) = putS (setS l) n := by simp [setS]
theorem kOf_le (l : List Int) (n : Int) : kOf l n ≤ l.length := by
 induction l with
 | nil => exact Nat.le_refl _
 | cons a l ih =>
  unfold kOf at ih ⊢
  rw [List.takeWhile_cons]
  split
  ·simpa using ih
  ·exact Nat.zero_le _
theorem kOf_lt : ∀ (l : List Int) (n : Int) (i : Nat) (x : Int), i < kOf l n → l[i]? = some x → x < n
 | [], n, i, x, h, hx => by simp at hx
 | a :: l, n, i, x, h, hx => by
  unfold kOf at h
  rw [List.takeWhile_cons] at h
  split at h
  ·rename_i ha
   cases i with
   | zero =>
    obtain rfl : a = x := by simpa using hx
    exact of_decide_eq_true ha
   | succ i => exact kOf_lt l n i x (by simp at h; unfold kOf; omega) (by simpa using hx)
  ·simp at h
theorem kOf_ge : ∀ (l : List Int) (n : Int) (x : Int), l[kOf l n]? = some x → n ≤ x
 | [], n, x, hx => by simp at hx
 | a :: l, n, x, hx => by
  unfold kOf at hx
  rw [List.takeWhile_cons] at hx
  split at hx
  ·exact kOf_ge l n x (by simpa [kOf] using hx)
  ·rename_i ha
   obtain rfl : a = x := by simpa using hx
   have : ¬ a < n := fun h => ha (decide_eq_true h)
   omega
theorem kOf_is {l : List Int} {n : Int} {k : Nat} (hk : k ≤ l.length) (h1 : ∀ i x, i < k → l[i]? = some x → x < n) (h2 : ∀ x, l[k]? = some x → n ≤ x) : kOf l n = k := by
 have a1 := kOf_lt l n
 have a2 := kOf_ge l n
 have a3 := kOf_le l n
 rcases Nat.lt_trichotomy (kOf l n) k with h | h | h
 ·obtain ⟨x, hx⟩ : ∃ x, l[kOf l n]? = some x := ⟨_, List.getElem?_eq_getElem (by omega)⟩
  have := h1 _ x h hx
  have := a2 x hx
  omega
 ·exact h
 ·obtain ⟨x, hx⟩ : ∃ x, l[k]? = some x := ⟨_, List.getElem?_eq_getElem (by omega)⟩
  have := a1 k x h hx
  have := h2 x hx
  omega
theorem putS_len (l : List Int) (n : Int) : (putS l n).length ≤ l.length + 1 := by
 have := kOf_le l n
 unfold putS
 split
 ·omega
 ·rw [List.length_append, List.length_append, List.length_take, List.length_drop, List.length_singleton]; omega
theorem setS_len (l : List Int) : (setS l).length ≤ l.length := by
 have : ∀ (l acc : List Int), (l.foldl putS acc).length ≤ acc.length + l.length := by
  intro l
  induction l with
  | nil => intro acc; exact Nat.le_refl _
  | cons a l ih =>
   intro acc
   have h1 := ih (putS acc a)
   have h2 := putS_len acc a
   rw [List.foldl_cons, List.length_cons]
   omega
 simpa [setS] using this l []
theorem putS_mem {l : List Int} {n x : Int} : x ∈ putS l n ↔ x ∈ l ∨ x = n := by
 unfold putS
 split
 ·rename_i h
  exact ⟨.inl, fun h' => h'.elim id (fun e => by subst e; exact List.mem_of_getElem? h)⟩
 ·rw [List.append_assoc, List.mem_append, List.mem_append, List.mem_singleton]
  constructor
  ·rintro (h | h | h)
   ·exact .inl (List.mem_of_mem_take h)
   ·exact .inr h
   ·exact .inl (List.mem_of_mem_drop h)
  ·rintro (h | h)
   ·rw [← List.take_append_drop (kOf l n) l, List.mem_append] at h
    rcases h with h | h
    ·exact .inl h
    ·exact .inr (.inr h)
   ·exact .inr (.inl h)
def Asc (l : List Int) : Prop := l.Pairwise (fun a b => a < b)
theorem putS_asc {l : List Int} {n : Int} (h : Asc l) : Asc (putS l n) := by
 unfold putS
 split
 ·exact h
 ·rename_i hne
  have hlt := kOf_lt l n
  have hge := kOf_ge l n
  have h0 : Asc (l.take (kOf l n) ++ l.drop (kOf l n)) := by rw [List.take_append_drop]; exact h
  unfold Asc at h0 ⊢
  rw [List.pairwise_append] at h0
  rw [List.append_assoc, List.pairwise_append]
  refine ⟨h0.1, ?_, ?_⟩
  ·rw [List.singleton_append, List.pairwise_cons]
   refine ⟨fun x hx => ?_, h0.2.1⟩
   cases hd : l[kOf l n]? with
   | none =>
    have := List.getElem?_eq_none_iff.1 hd
    rw [List.drop_eq_nil_of_le this] at hx
    cases hx
   | some y =>
    have hy := hge y hd
    have hyn : y ≠ n := fun e => hne (by rw [hd, e])
    have hdy : l.drop (kOf l n) = y :: l.drop (kOf l n + 1) := by
     have hk := (List.getElem?_eq_some_iff.1 hd)
     rw [List.drop_eq_getElem_cons hk.1, hk.2]
    rw [hdy] at hx h0
    rcases List.mem_cons.1 hx with rfl | hx
    ·omega
    ·have := (List.pairwise_cons.1 h0.2.1).1 x hx
     omega
  ·intro a ha b hb
   have han : a < n := by
    obtain ⟨i, hi⟩ := List.getElem?_of_mem ha
    have hik : i < kOf l n := by
     have := (List.getElem?_eq_some_iff.1 hi).1
     rw [List.length_take] at this
     omega
    rw [List.getElem?_take_of_lt hik] at hi
    exact hlt i a hik hi
   rcases List.mem_cons.1 hb with rfl | hb
   ·exact han
   ·exact h0.2.2 a ha b hb
theorem setS_asc (l : List Int) : Asc (setS l) := by
 have : ∀ (l acc : List Int), Asc acc → Asc (l.foldl putS acc) := by
  intro l
  induction l with
  | nil => intro acc h; exact h
  | cons a l ih => intro acc h; exact ih _ (putS_asc h)
 exact this l [] List.Pairwise.nil
theorem setS_mem {l : List Int} {x : Int} : x ∈ setS l ↔ x ∈ l := by
 have : ∀ (l acc : List Int), x ∈ l.foldl putS acc ↔ x ∈ acc ∨ x ∈ l := by
  intro l
  induction l with
  | nil => intro acc; simp
  | cons a l ih =>
   intro acc
   rw [List.foldl_cons, ih, putS_mem, List.mem_cons, or_assoc]
 rw [setS, this]
 simp
theorem asc_eq : ∀ {a b : List Int}, Asc a → Asc b → (∀ x, x ∈ a ↔ x ∈ b) → a = b
 | [], [], _, _, _ => rfl
 | [], y :: b, _, _, h => by have := (h y).2 List.mem_cons_self; cases this
 | x :: a, [], _, _, h => by have := (h x).1 List.mem_cons_self; cases this
 | x :: a, y :: b, ha, hb, h => by
  have ha' := List.pairwise_cons.1 ha
  have hb' := List.pairwise_cons.1 hb
  have hxy : x = y := by
   rcases List.mem_cons.1 ((h x).1 List.mem_cons_self) with e | e
   ·exact e
   ·rcases List.mem_cons.1 ((h y).2 List.mem_cons_self) with e' | e'
    ·exact e'.symm
    ·have := hb'.1 x e
     have := ha'.1 y e'
     omega
  subst hxy
  congr 1
  refine asc_eq ha'.2 hb'.2 fun z => ⟨fun hz => ?_, fun hz => ?_⟩
  ·rcases List.mem_cons.1 ((h z).1 (List.mem_cons_of_mem _ hz)) with e | e
   ·subst e
    have := ha'.1 z hz
    omega
   ·exact e
  ·rcases List.mem_cons.1 ((h z).2 (List.mem_cons_of_mem _ hz)) with e | e
   ·subst e
    have := hb'.1 z hz
    omega
   ·exact e
theorem compactUpTo_inv (d : Array Int) (hd : ∀ i j, i < j → j < d.size → d[i]! ≤ d[j]!) : ∀ m, m ≤ d.size →
  Asc (Lib.compactUpTo d m) ∧ (∀ x, x ∈ Lib.compactUpTo d m ↔ ∃ j, j < m ∧ d[j]! = x) ∧ (∀ x ∈ Lib.compactUpTo d m, ∀ j, m ≤ j + 1 → j < d.size → x ≤ d[j]!)
 | 0, _ => ⟨List.Pairwise.nil, fun x => ⟨fun h => by simp [Lib.compactUpTo] at h, fun ⟨j, hj, _⟩ => by omega⟩, fun x hx => by simp [Lib.compactUpTo] at hx⟩
 | m + 1, hm => by
  obtain ⟨h1, h2, h3⟩ := compactUpTo_inv d hd m (by omega)
  rw [Lib.compactUpTo_succ]
  cases hk : Lib.keeps d m with
  | false =>
   rw [if_neg (by decide), List.append_nil]
   have he : 0 < m ∧ d[m]! = d[m - 1]! := by
    unfold Lib.keeps at hk
    simp only [decide_eq_false_iff_not, not_or, Decidable.not_not] at hk
    exact ⟨by omega, hk.2⟩
   refine ⟨h1, fun x => ⟨fun hx => ?_, fun ⟨j, hj, e⟩ => ?_⟩, fun x hx j hj hjd => ?_⟩
   ·obtain ⟨j, hj, e⟩ := (h2 x).1 hx
    exact ⟨j, by omega, e⟩
   ·rcases Nat.lt_or_ge j m with hlt | hge
    ·exact (h2 x).2 ⟨j, hlt, e⟩
    ·obtain rfl : j = m := by omega
     exact (h2 x).2 ⟨j - 1, by omega, by rw [← he.2]; exact e⟩
   ·exact h3 x hx j (by omega) hjd
  | true =>
   rw [if_pos rfl]
   have hx0 : ∀ x ∈ Lib.compactUpTo d m, x < d[m]! := by
    intro x hx
    obtain ⟨j, hj, e⟩ := (h2 x).1 hx
    have hm0 : m ≠ 0 := by omega
    have hne : d[m]! ≠ d[m - 1]! := by
     unfold Lib.keeps at hk
     simp only [decide_eq_true_eq] at hk
     exact hk.resolve_left hm0
    have a1 := h3 x hx (m - 1) (by omega) (by omega)
    have a2 := hd (m - 1) m (by omega) (by omega)
    omega
   refine ⟨?_, fun x => ?_, fun x hx j hj hjd => ?_⟩
   ·unfold Asc
    rw [List.pairwise_append]
    exact ⟨h1, List.pairwise_singleton _ _, fun a ha b hb => by obtain rfl := List.mem_singleton.1 hb; exact hx0 a ha⟩
   ·rw [List.mem_append, List.mem_singleton, h2]
    constructor
    ·rintro (⟨j, hj, e⟩ | e)
     ·exact ⟨j, by omega, e⟩
     ·exact ⟨m, by omega, e.symm⟩
    ·rintro ⟨j, hj, e⟩
     rcases Nat.lt_or_ge j m with hlt | hge
     ·exact .inl ⟨j, hlt, e⟩
     ·obtain rfl : j = m := by omega
      exact .inr e.symm
   ·have hmj : d[m]! ≤ d[j]! := by
     rcases Nat.lt_or_ge m j with hlt | hge
     ·exact hd m j hlt hjd
     ·obtain rfl : j = m := by omega
      exact Int.le_refl _
    rcases List.mem_append.1 hx with hx | hx
    ·have := hx0 x hx
     omega
    ·obtain rfl := List.mem_singleton.1 hx
     exact hmj
def sortI (l : List Int) : List Int := l.mergeSort (fun x y => decide (x ≤ y))
theorem sortI_len (l : List Int) : (sortI l).length = l.length := List.length_mergeSort _
theorem sortI_mem {l : List Int} {x : Int} : x ∈ sortI l ↔ x ∈ l := List.mem_mergeSort
theorem sortI_le (l : List Int) : (sortI l).Pairwise (fun a b => a ≤ b) := by
 have := List.pairwise_mergeSort (le := fun (x y : Int) => decide (x ≤ y)) (fun a b c h1 h2 => by simp at h1 h2 ⊢; omega) (fun a b => by simp; omega) l
 exact this.imp (fun h => by simpa using h)
theorem compact_sort (l : List Int) : Lib.compact (sortI l) = setS l := by
 have hs := sortI_le l
 generalize hz : sortI l = z at *
 have hm : ∀ x, x ∈ z ↔ x ∈ l := fun x => by rw [← hz]; exact sortI_mem
 have hget : ∀ (i : Nat) (hi : i < z.length), z.toArray[i]! = z[i] := fun i hi => by simp [hi]
 obtain ⟨h1, h2, _⟩ := compactUpTo_inv z.toArray (fun i j hij hj => by
  have hj' : j < z.length := by simpa using hj
  rw [hget i (by omega), hget j hj']
  exact List.pairwise_iff_getElem.1 hs i j (by omega) hj' hij) z.length (by simp)
 refine asc_eq h1 (setS_asc l) fun x => ?_
 rw [setS_mem, ← hm]
 show x ∈ Lib.compactUpTo z.toArray z.length ↔ _
 rw [h2]
 constructor
 ·rintro ⟨j, hj, e⟩
  rw [hget j hj] at e
  rw [← e]
  exact List.getElem_mem hj
 ·intro hx
  obtain ⟨j, hj, e⟩ := List.getElem_of_mem hx
  exact ⟨j, hj, by rw [hget j hj]; exact e⟩
end Go.Proofs.Ytdmcgkcpclepfaa.PL
-- squeezed
