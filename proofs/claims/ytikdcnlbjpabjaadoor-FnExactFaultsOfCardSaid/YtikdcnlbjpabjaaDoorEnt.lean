/- Entries as pure functions of a list: which resources are open behind it, which entries are faults; and the map that tells the same. -/
import Derived.Test.YtikdcnlbjpabjaaDoorLi
import Derived.Maps.OwnSet
namespace Go.Proofs.YtikdcnlbjpabjaaDoor.EntP
set_option linter.unusedVariables false
set_option linter.unusedSimpArgs false
open Go.ChangeShapes Go.WideShapes Go.ChangeAt Go.RowKit Go.Deep
open Mem IntsP LiP

def dropI (n : Int) (l : List Int) : List Int := l.filter (fun y => decide (y ≠ n))
def absI (x : Int) : Int := if x < -x then -x else x
def stepO (o : List Int) (x : Int) : List Int := if x = 0 then o else if 0 < x then dropI x o ++ [x] else dropI (-x) o
def openL (l : List Int) : List Int := l.foldl stepO []
def openK (l : List Int) (k : Nat) : List Int := openL (l.take k)
def fltB (o : List Int) (x : Int) : Bool := decide (x ≠ 0) && (decide (absI x ∈ o) == decide (0 < x))
def faultsK (l : List Int) (k : Nat) : List Int := ((List.range k).filter (fun i => fltB (openK l i) (l.getD i 0))).map (fun i : Nat => (i : Int))
def inN (z : Int) : Prop := -32767 ≤ z ∧ z ≤ 32767
instance (z : Int) : Decidable (inN z) := by unfold inN; infer_instance
def goodK (l : List Int) (k : Nat) : Prop := ∀ (j : Nat) (z : Int), j < k → l[j]? = some z → inN z
def goodL (l : List Int) : Bool := decide (l.length ≤ 60) && l.all (fun z => decide (inN z))

theorem goodL_iff (l : List Int) : goodL l = true ↔ l.length ≤ 60 ∧ goodK l l.length := by
  unfold goodL goodK
  rw [Bool.and_eq_true, decide_eq_true_eq, List.all_eq_true]
  constructor
  · rintro ⟨h1, h2⟩
    exact ⟨h1, fun j z _ hz => of_decide_eq_true (h2 z (List.mem_of_getElem? hz))⟩
  · rintro ⟨h1, h2⟩
    refine ⟨h1, fun z hz => ?_⟩
    obtain ⟨j, hj, e⟩ := List.getElem_of_mem hz
    exact decide_eq_true (h2 j z hj (by rw [List.getElem?_eq_getElem hj, e]))
theorem goodL_no {l : List Int} {k : Nat} {z : Int} (h : l[k]? = some z) (hz : ¬ inN z) : goodL l = false := by
  rw [← Bool.not_eq_true, goodL_iff]
  rintro ⟨_, h2⟩
  exact hz (h2 k z ((List.getElem?_eq_some_iff.1 h).1) h)
theorem goodL_long {l : List Int} (h : 60 < l.length) : goodL l = false := by
  rw [← Bool.not_eq_true, goodL_iff]
  rintro ⟨h1, _⟩
  omega
theorem goodK_succ {l : List Int} {k : Nat} {z : Int} (h : goodK l k) (hz : l[k]? = some z) (hi : inN z) : goodK l (k + 1) := by
  intro j y hj hy
  by_cases e : j = k
  · subst e
    rw [hz] at hy
    injection hy with hy
    subst hy; exact hi
  · exact h j y (by omega) hy

theorem mem_dropI {n y : Int} {l : List Int} : y ∈ dropI n l ↔ y ∈ l ∧ y ≠ n := by simp [dropI]
theorem dropI_len (n : Int) (l : List Int) : (dropI n l).length ≤ l.length := List.length_filter_le _ _
theorem dropI_nodup {n : Int} {l : List Int} (h : l.Nodup) : (dropI n l).Nodup := h.filter _
theorem dropI_not {n : Int} {l : List Int} (h : n ∉ l) : dropI n l = l := by
  unfold dropI
  rw [List.filter_eq_self]
  intro a ha
  exact decide_eq_true (fun e => h (e ▸ ha))
theorem dropI_len_mem {n : Int} : ∀ {l : List Int}, l.Nodup → n ∈ l → (dropI n l).length + 1 = l.length
  | [], _, h => by simp at h
  | a :: l, hn, h => by
    rw [List.nodup_cons] at hn
    by_cases e : a = n
    · subst e
      have : dropI a (a :: l) = dropI a l := by simp [dropI]
      rw [this, dropI_not hn.1, List.length_cons]
    · have : dropI n (a :: l) = a :: dropI n l := by simp [dropI, e]
      have h2 : n ∈ l := by
        rcases List.mem_cons.1 h with h | h
        · exact absurd h.symm e
        · exact h
      rw [this, List.length_cons, List.length_cons, dropI_len_mem hn.2 h2]
theorem dropI_snoc (n x : Int) (l : List Int) : dropI n (l ++ [x]) = if x = n then dropI n l else dropI n l ++ [x] := by
  unfold dropI
  rw [List.filter_append]
  by_cases e : x = n <;> simp [e]

theorem take_snoc {l : List Int} {k : Nat} {x : Int} (h : l[k]? = some x) : l.take (k + 1) = l.take k ++ [x] := by
  rw [List.take_add_one, h]; rfl
theorem openK_zero (l : List Int) : openK l 0 = [] := by simp [openK, openL]
theorem openK_succ {l : List Int} {k : Nat} {x : Int} (h : l[k]? = some x) : openK l (k + 1) = stepO (openK l k) x := by
  unfold openK openL
  rw [take_snoc h, List.foldl_append]; rfl
theorem openK_all (l : List Int) : openK l l.length = openL l := by unfold openK; rw [List.take_length]
theorem openK_take (l : List Int) (m k : Nat) (h : k ≤ m) : openK (l.take m) k = openK l k := by
  unfold openK; rw [List.take_take, Nat.min_eq_left h]
theorem stepO_nodup {o : List Int} (h : o.Nodup) (x : Int) : (stepO o x).Nodup := by
  unfold stepO
  split
  · exact h
  · split
    · rw [List.nodup_append]
      refine ⟨dropI_nodup h, by simp, ?_⟩
      intro a ha b hb e
      rw [List.mem_singleton] at hb
      subst hb; subst e
      exact (mem_dropI.1 ha).2 rfl
    · exact dropI_nodup h
theorem stepO_pos {o : List Int} (h : ∀ y ∈ o, 0 < y ∧ y ≤ 32767) {x : Int} (hx : inN x) : ∀ y ∈ stepO o x, 0 < y ∧ y ≤ 32767 := by
  unfold inN at hx
  unfold stepO
  split
  · exact h
  · split
    · intro y hy
      rcases List.mem_append.1 hy with hy | hy
      · exact h y (mem_dropI.1 hy).1
      · rw [List.mem_singleton] at hy; subst hy; omega
    · intro y hy; exact h y (mem_dropI.1 hy).1
theorem stepO_len (o : List Int) (x : Int) : (stepO o x).length ≤ o.length + 1 := by
  unfold stepO
  split
  · omega
  · split
    · have := dropI_len x o; rw [List.length_append, List.length_singleton]; omega
    · have := dropI_len (-x) o; omega
theorem openL_nodup (l : List Int) : (openL l).Nodup := by
  unfold openL
  suffices h : ∀ (l o : List Int), o.Nodup → (l.foldl stepO o).Nodup from h l [] List.nodup_nil
  intro l
  induction l with
  | nil => intro o h; exact h
  | cons x l ih => intro o h; exact ih _ (stepO_nodup h x)
theorem openL_len (l : List Int) : (openL l).length ≤ l.length := by
  unfold openL
  suffices h : ∀ (l o : List Int), (l.foldl stepO o).length ≤ o.length + l.length by simpa using h l []
  intro l
  induction l with
  | nil => intro o; simp
  | cons x l ih => intro o; have h1 := ih (stepO o x); have h2 := stepO_len o x; rw [List.foldl_cons, List.length_cons]; omega
theorem openK_len (l : List Int) (k : Nat) : (openK l k).length ≤ k := Nat.le_trans (openL_len _) (by simp; omega)
theorem openK_pos {l : List Int} : ∀ {k : Nat}, goodK l k → k ≤ l.length → ∀ y ∈ openK l k, 0 < y ∧ y ≤ 32767
  | 0, _, _ => by rw [openK_zero]; simp
  | k + 1, h, hk => by
    obtain ⟨x, hx⟩ : ∃ x, l[k]? = some x := ⟨_, List.getElem?_eq_getElem (by omega)⟩
    rw [openK_succ hx]
    exact stepO_pos (openK_pos (fun j z hj hz => h j z (by omega) hz) (by omega)) (h k x (by omega) hx)
theorem openK_nodup (l : List Int) (k : Nat) : (openK l k).Nodup := openL_nodup _

theorem faultsK_yes {l : List Int} {k : Nat} {x : Int} (h : l[k]? = some x) (hf : fltB (openK l k) x = true) : faultsK l (k + 1) = faultsK l k ++ [(k : Int)] := by
  have e : l.getD k 0 = x := by simp [h]
  unfold faultsK; rw [List.range_succ, List.filter_append, List.map_append]; simp only [List.filter_cons, e, hf]; rfl
theorem faultsK_no {l : List Int} {k : Nat} {x : Int} (h : l[k]? = some x) (hf : fltB (openK l k) x = false) : faultsK l (k + 1) = faultsK l k := by
  have e : l.getD k 0 = x := by simp [h]
  unfold faultsK; rw [List.range_succ, List.filter_append, List.map_append]; simp only [List.filter_cons, e, hf]; simp
theorem faultsK_len (l : List Int) (k : Nat) : (faultsK l k).length ≤ k := by
  unfold faultsK; rw [List.length_map]; exact Nat.le_trans (List.length_filter_le _ _) (by simp)
theorem faultsK_zero (l : List Int) : faultsK l 0 = [] := rfl
theorem fltB_zero (o : List Int) : fltB o 0 = false := by simp [fltB]
theorem absI_pos {x : Int} (h : 0 < x) : absI x = x := by unfold absI; rw [if_neg (by omega)]
theorem absI_neg {x : Int} (h : x < 0) : absI x = -x := by unfold absI; rw [if_pos (by omega)]
theorem fltB_pos {o : List Int} {x : Int} (h : 0 < x) : fltB o x = decide (x ∈ o) := by
  unfold fltB; rw [absI_pos h, decide_eq_true (show x ≠ 0 by omega), decide_eq_true h]; simp
theorem fltB_neg {o : List Int} {x : Int} (h : x < 0) : fltB o x = !decide (-x ∈ o) := by
  unfold fltB; rw [absI_neg h, decide_eq_true (show x ≠ 0 by omega), decide_eq_false (show ¬ 0 < x by omega)]; simp

/-! ### The map. -/
open Go.Maps
def keyI (x : Int) : Lit := .int .i64 x
theorem keyI_ne {x y : Int} (h : x ≠ y) : keyI x ≠ keyI y := fun e => h (by unfold keyI at e; injection e)
/-- A map D tells the open resources o, each with the place of the entry that opened it last, below i. -/
structure MapO (D : DataW Unit) (o : List Int) (i : Nat) : Prop where
  tidy : Tidy D
  has_ : ∀ n, Maps.has D (keyI n) = decide (n ∈ o)
  size_ : Maps.size D = o.length
  nd : o.Nodup
  pl : ∃ f : Int → Nat, (∀ n ∈ o, f n < i ∧ ∀ z, D.atKey (keyI n) z = .lit (.int .i64 (f n))) ∧ o.Pairwise (fun a b => f a < f b)
theorem MapO.empty (i : Nat) : MapO (.map []) [] i := ⟨tidy_empty, fun n => by simp [Maps.has], rfl, List.nodup_nil, fun _ => 0, by simp, List.Pairwise.nil⟩
theorem MapO.mono {D : DataW Unit} {o : List Int} {i j : Nat} (h : MapO D o i) (hij : i ≤ j) : MapO D o j := by
  obtain ⟨f, h1, h2⟩ := h.pl
  exact ⟨h.tidy, h.has_, h.size_, h.nd, f, fun n hn => ⟨by have := (h1 n hn).1; omega, (h1 n hn).2⟩, h2⟩
theorem MapO.put {D : DataW Unit} {o : List Int} {i : Nat} (h : MapO D o i) (x : Int) (hk : WideAt.IsKeyLit (keyI x)) : MapO (D.put (keyI x) (.lit (.int .i64 i))) (dropI x o ++ [x]) (i + 1) := by
  have hnd : (dropI x o ++ [x]).Nodup := by
    rw [List.nodup_append]
    refine ⟨dropI_nodup h.nd, by simp, ?_⟩
    intro a ha b hb e
    rw [List.mem_singleton] at hb
    subst hb; subst e
    exact (mem_dropI.1 ha).2 rfl
  refine ⟨h.tidy.put hk _, fun n => ?_, ?_, hnd, ?_⟩
  · by_cases e : n = x
    · subst e
      rw [has_put_same h.tidy.isMap hk]; simp
    · rw [has_put_other (keyI_ne e), h.has_]
      congr 1
      simp [mem_dropI, e]
  · rw [size_put h.tidy, h.has_, h.size_, List.length_append, List.length_singleton]
    by_cases e : x ∈ o
    · rw [if_pos (decide_eq_true e), dropI_len_mem h.nd e]
    · rw [if_neg (by simpa using e), dropI_not e]
  · obtain ⟨f, h1, h2⟩ := h.pl
    refine ⟨fun n => if n = x then i else f n, fun n hn => ?_, ?_⟩
    · by_cases e : n = x
      · subst e
        simp only [if_true]
        exact ⟨by omega, fun z => atKey_put_same h.tidy.isMap hk _ _⟩
      · have hm : n ∈ o := by
          rcases List.mem_append.1 hn with hn | hn
          · exact (mem_dropI.1 hn).1
          · exact absurd (List.mem_singleton.1 hn) e
        simp only [if_neg e]
        exact ⟨by have := (h1 n hm).1; omega, fun z => by rw [atKey_put_other (keyI_ne e)]; exact (h1 n hm).2 z⟩
    · rw [List.pairwise_append]
      refine ⟨?_, by simp, ?_⟩
      · have h3 : (dropI x o).Pairwise (fun a b => f a < f b) := h2.filter _
        exact List.Pairwise.imp_of_mem (fun {a b} ha hb hab => by
          show (if a = x then i else f a) < (if b = x then i else f b)
          rw [if_neg (mem_dropI.1 ha).2, if_neg (mem_dropI.1 hb).2]; exact hab) h3
      · intro a ha b hb
        rw [List.mem_singleton] at hb
        subst hb
        show (if a = b then i else f a) < (if b = b then i else f b)
        rw [if_neg (mem_dropI.1 ha).2, if_pos rfl]
        exact (h1 a (mem_dropI.1 ha).1).1
theorem MapO.del {D : DataW Unit} {o : List Int} {i : Nat} (h : MapO D o i) (x : Int) : MapO (D.del (keyI x)) (dropI x o) i := by
  refine ⟨h.tidy.del _, fun n => ?_, ?_, dropI_nodup h.nd, ?_⟩
  · by_cases e : n = x
    · subst e
      rw [has_del_same]; simp [mem_dropI]
    · rw [has_del_other (keyI_ne e), h.has_]
      congr 1
      simp [mem_dropI, e]
  · have := size_del (k := keyI x) h.tidy
    rw [h.has_, h.size_] at this
    by_cases e : x ∈ o
    · rw [if_pos (decide_eq_true e)] at this
      have h2 := dropI_len_mem h.nd e
      omega
    · rw [if_neg (by simpa using e)] at this
      rw [dropI_not e]; omega
  · obtain ⟨f, h1, h2⟩ := h.pl
    refine ⟨f, fun n hn => ?_, h2.filter _⟩
    obtain ⟨hm, hne⟩ := mem_dropI.1 hn
    exact ⟨(h1 n hm).1, fun z => by rw [atKey_del_other (keyI_ne hne)]; exact (h1 n hm).2 z⟩
end Go.Proofs.YtikdcnlbjpabjaaDoor.EntP
