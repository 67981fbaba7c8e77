import Derived.Test.YtdmcgkcpclepfaaSet
set_option linter.all false
namespace Go.Proofs.Ytdmcgkcpclepfaa.PL
def addN (l : List Int) (y : Int) : List Int := if l.contains y = true then l else l ++ [y]
def addsN (l ys : List Int) : List Int := ys.foldl addN l
def Rng (n : Nat) (l : List Int) : Prop := ∀ x ∈ l, 0 ≤ x ∧ x < n
theorem addsN_take {l ys : List Int} {j : Nat} {y : Int} (h : ys[j]? = some y) : addsN l (ys.take (j + 1)) = addN (addsN l (ys.take j)) y := by
 unfold addsN
 rw [List.take_add_one, h, Option.toList_some, List.foldl_append]
 rfl
theorem addN_nodup {l : List Int} {y : Int} (h : l.Nodup) : (addN l y).Nodup := by
 unfold addN
 split
 ·exact h
 ·rename_i hc
  rw [List.nodup_append]
  refine ⟨h, List.pairwise_singleton _ _, fun a ha b hb e => ?_⟩
  obtain rfl := List.mem_singleton.1 hb
  subst e
  exact hc (List.contains_iff_mem.2 ha)
theorem addN_rng {n : Nat} {l : List Int} {y : Int} (h : Rng n l) (hy : 0 ≤ y ∧ y < n) : Rng n (addN l y) := by
 unfold addN
 split
 ·exact h
 ·intro x hx
  rcases List.mem_append.1 hx with hx | hx
  ·exact h x hx
  ·obtain rfl := List.mem_singleton.1 hx
   exact hy
theorem addsN_ok {n : Nat} : ∀ (ys l : List Int), l.Nodup → Rng n l → Rng n ys → (addsN l ys).Nodup ∧ Rng n (addsN l ys)
 | [], l, h1, h2, _ => ⟨h1, h2⟩
 | y :: ys, l, h1, h2, h3 => addsN_ok ys (addN l y) (addN_nodup h1) (addN_rng h2 (h3 y List.mem_cons_self)) (fun x hx => h3 x (List.mem_cons_of_mem _ hx))
theorem setS_contains (l : List Int) (y : Int) : (setS l).contains y = l.contains y := by
 rw [Bool.eq_iff_iff, List.contains_iff_mem, List.contains_iff_mem]
 exact setS_mem
def rch (next : Int → List Int) (f : Int) : Nat → List Int
 | 0 => [f]
 | i + 1 => match (rch next f i)[i]? with
  | some g => addsN (rch next f i) (next g)
  | none => rch next f i
theorem rch_next {next : Int → List Int} {f g : Int} {i : Nat} (h : (rch next f i)[i]? = some g) : rch next f (i + 1) = addsN (rch next f i) (next g) := by rw [rch, h]
theorem rch_end {next : Int → List Int} {f : Int} {i : Nat} (h : (rch next f i).length ≤ i) : rch next f (i + 1) = rch next f i := by rw [rch, List.getElem?_eq_none h]
theorem rch_ok {next : Int → List Int} {f : Int} {n : Nat} (hf : 0 ≤ f ∧ f < n) (hn : ∀ g : Int, 0 ≤ g → g < n → Rng n (next g)) : ∀ i, (rch next f i).Nodup ∧ Rng n (rch next f i)
 | 0 => ⟨List.pairwise_singleton _ _, fun x hx => by obtain rfl := List.mem_singleton.1 hx; exact hf⟩
 | i + 1 => by
  obtain ⟨h1, h2⟩ := rch_ok hf hn i
  cases hg : (rch next f i)[i]? with
  | none => rw [rch, hg]; exact ⟨h1, h2⟩
  | some g =>
   rw [rch_next hg]
   have := h2 g (List.mem_of_getElem? hg)
   exact addsN_ok _ _ h1 h2 (hn g this.1 this.2)
theorem asc_len : ∀ (l : List Int) (a b : Int), Asc l → (∀ x ∈ l, a ≤ x ∧ x < b) → l.length ≤ (b - a).toNat
 | [], _, _, _, _ => Nat.zero_le _
 | x :: l, a, b, h, hr => by
  have h1 := List.pairwise_cons.1 h
  have hx := hr x List.mem_cons_self
  have ih := asc_len l (x + 1) b h1.2 (fun y hy => by have := h1.1 y hy; have := hr y (List.mem_cons_of_mem _ hy); omega)
  rw [List.length_cons]
  omega
theorem sortI_asc {l : List Int} (h : l.Nodup) : Asc (sortI l) := by
 have h1 := sortI_le l
 have h2 : (sortI l).Nodup := (List.mergeSort_perm l _).nodup_iff.2 h
 unfold Asc
 have h3 : (sortI l).Pairwise (fun a b => a ≠ b) := h2
 refine List.Pairwise.imp₂ (fun a b hab hne => ?_) h1 h3
 omega
theorem sortI_set {l : List Int} (h : l.Nodup) : sortI l = setS l := asc_eq (sortI_asc h) (setS_asc l) fun x => by rw [sortI_mem, setS_mem]
theorem nodup_len {l : List Int} {n : Nat} (h : l.Nodup) (hr : Rng n l) : l.length ≤ n := by
 have := asc_len (sortI l) 0 n (sortI_asc h) (fun x hx => hr x (sortI_mem.1 hx))
 rw [sortI_len] at this
 omega
theorem rch_stop {next : Int → List Int} {f : Int} {i : Nat} (h : (rch next f i).length ≤ i) : ∀ d, rch next f (i + d) = rch next f i
 | 0 => rfl
 | d + 1 => by
  have ih := rch_stop h d
  rw [show i + (d + 1) = i + d + 1 by omega, rch_end (by rw [ih]; omega), ih]
theorem rch_all {next : Int → List Int} {f : Int} {n i : Nat} (hf : 0 ≤ f ∧ f < n) (hn : ∀ g : Int, 0 ≤ g → g < n → Rng n (next g)) (h : (rch next f i).length ≤ i) (hi : i ≤ n) : rch next f n = rch next f i := by
 have := rch_stop h (n - i)
 rwa [show i + (n - i) = n by omega] at this
end Go.Proofs.Ytdmcgkcpclepfaa.PL
-- squeezed
