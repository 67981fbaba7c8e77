import Derived.Test.YtdmcgkcpclepfaaNup
import Derived.Test.YtdmcgkcpclepfaaRea
set_option linter.all false
namespace Go.Proofs.Ytdmcgkcpclepfaa.Krp
open PL Res CalP ReaP Nup SetM SortP
def fkK (R : List Int) : Nat → List Int
 | 0 => []
 | k + 1 => if R.contains (k : Int) = true then fkK R k ++ [(k : Int)] else fkK R k
def tvK (R : List Int) (k : Nat) : Int := if R.contains (k : Int) = true then ((fkK R k).length : Int) else -1
def toK (R : List Int) : Nat → List Int
 | 0 => []
 | k + 1 => toK R k ++ [tvK R k]
theorem toK_len (R : List Int) : ∀ k, (toK R k).length = k
 | 0 => rfl
 | k + 1 => by rw [toK, List.length_append, toK_len R k]; rfl
theorem toK_get {R : List Int} {i : Nat} : ∀ {k : Nat}, i < k → (toK R k)[i]? = some (tvK R i)
 | 0, h => absurd h (Nat.not_lt_zero _)
 | k + 1, h => by
  rw [toK]
  by_cases hik : i < k
  ·rw [List.getElem?_append_left (by rw [toK_len]; exact hik)]
   exact toK_get hik
  ·obtain rfl : i = k := by omega
   rw [List.getElem?_append_right (by rw [toK_len]; exact Nat.le_refl _), toK_len, Nat.sub_self]
   rfl
theorem fkK_mono (R : List Int) {k : Nat} : ∀ d, (fkK R k).length ≤ (fkK R (k + d)).length
 | 0 => Nat.le_refl _
 | d + 1 => by
  have ih := fkK_mono R (k := k) d
  rw [show k + (d + 1) = (k + d) + 1 by omega, fkK]
  split
  ·rw [List.length_append]; omega
  ·exact ih
theorem fkK_le (R : List Int) : ∀ k, (fkK R k).length ≤ k
 | 0 => Nat.le_refl _
 | k + 1 => by
  have ih := fkK_le R k
  rw [fkK]
  split
  ·rw [List.length_append]; simp; omega
  ·omega
theorem fkK_mem {R : List Int} {x : Int} : ∀ {k : Nat}, x ∈ fkK R k ↔ x ∈ R ∧ 0 ≤ x ∧ x < k
 | 0 => by
  constructor
  ·intro h; cases h
  ·intro h; omega
 | k + 1 => by
  have ih := fkK_mem (R := R) (x := x) (k := k)
  rw [fkK]
  split
  ·rename_i hc
   rw [List.mem_append, ih, List.mem_singleton]
   constructor
   ·rintro (⟨h1, h2, h3⟩ | rfl)
    ·exact ⟨h1, h2, by omega⟩
    ·exact ⟨List.contains_iff_mem.1 hc, by omega, by omega⟩
   ·rintro ⟨h1, h2, h3⟩
    by_cases e : x = k
    ·exact .inr e
    ·exact .inl ⟨h1, h2, by omega⟩
  ·rename_i hc
   rw [ih]
   constructor
   ·rintro ⟨h1, h2, h3⟩; exact ⟨h1, h2, by omega⟩
   ·rintro ⟨h1, h2, h3⟩
    refine ⟨h1, h2, ?_⟩
    have : x ≠ k := fun e => hc (List.contains_iff_mem.2 (e ▸ h1))
    omega
theorem fkK_asc (R : List Int) : ∀ k, Asc (fkK R k)
 | 0 => List.Pairwise.nil
 | k + 1 => by
  have ih := fkK_asc R k
  rw [fkK]
  split
  ·unfold Asc
   rw [List.pairwise_append]
   refine ⟨ih, List.pairwise_singleton _ _, fun a ha b hb => ?_⟩
   obtain rfl := List.mem_singleton.1 hb
   exact (fkK_mem.1 ha).2.2
  ·exact ih
theorem fkK_full {R : List Int} {n : Nat} (ha : Asc R) (hr : Rng n R) : fkK R n = R :=
 asc_eq (fkK_asc R n) ha fun x => ⟨fun h => (fkK_mem.1 h).1, fun h => fkK_mem.2 ⟨h, hr x h⟩⟩
theorem fkK_at {R : List Int} {j : Nat} {g : Int} : ∀ {n : Nat}, (fkK R n)[j]? = some g → ∃ i : Nat, g = i ∧ i < n ∧ R.contains g = true ∧ (fkK R i).length = j
 | 0, h => by cases h
 | n + 1, h => by
  rw [fkK] at h
  split at h
  ·rename_i hc
   by_cases hj : j < (fkK R n).length
   ·rw [List.getElem?_append_left hj] at h
    obtain ⟨i, h1, h2, h3, h4⟩ := fkK_at h
    exact ⟨i, h1, by omega, h3, h4⟩
   ·have hlt := (List.getElem?_eq_some_iff.1 h).1
    rw [List.length_append, List.length_singleton] at hlt
    obtain rfl : j = (fkK R n).length := by omega
    rw [List.getElem?_append_right (Nat.le_refl _), Nat.sub_self] at h
    obtain rfl : (n : Int) = g := by simpa using h
    exact ⟨n, rfl, by omega, hc, rfl⟩
  ·obtain ⟨i, h1, h2, h3, h4⟩ := fkK_at h
   exact ⟨i, h1, by omega, h3, h4⟩
theorem manyU_toK {R : List Int} {n : Nat} : ∀ k, k ≤ n → manyU (toK R n) k = (fkK R k).length
 | 0, _ => rfl
 | k + 1, h => by
  have ih := manyU_toK (R := R) (n := n) k (by omega)
  rw [manyU_next (toK_get (show k < n by omega)), ih, tvK, fkK]
  split
  ·rw [List.length_append, List.length_singleton]; omega
  ·omega
def bodyK (p : Pg) (tn : List Int) (g : Int) : List Tr := numB tn (p.getD g.toNat [])
theorem set_next {f : Int → List Tr} {l : List Int} {y : Int} {m : Nat} (hm : l.length < m) : (l.map f ++ List.replicate (m - l.length) []).set l.length (f y) = (l ++ [y]).map f ++ List.replicate (m - (l ++ [y]).length) [] := by
 rw [List.set_append_right _ _ (by rw [List.length_map]; exact Nat.le_refl _), List.length_map, Nat.sub_self, List.length_append, List.length_singleton,
  show m - l.length = (m - (l.length + 1)) + 1 by omega, List.replicate_succ, List.set_cons_zero, List.map_append, List.append_assoc]
 rfl
theorem numU_toK {p : Pg} {R : List Int} {n m : Nat} (hm : (fkK R n).length ≤ m) : ∀ k, k ≤ n → numU p (toK R n) m k = (fkK R k).map (bodyK p (toK R n)) ++ List.replicate (m - (fkK R k).length) []
 | 0, _ => by simp [numU, fkK]
 | k + 1, h => by
  have ih := numU_toK (p := p) hm k (by omega)
  have hmn := fkK_mono R (k := k + 1) (n - (k + 1))
  rw [show k + 1 + (n - (k + 1)) = n by omega] at hmn
  rw [numU, toK_get (show k < n by omega)]
  dsimp only
  rw [ih, tvK]
  by_cases hc : R.contains (k : Int) = true
  ·have e : fkK R (k + 1) = fkK R k ++ [(k : Int)] := by rw [fkK, if_pos hc]
   have hlt : (fkK R k).length < m := by rw [e, List.length_append, List.length_singleton] at hmn; omega
   rw [if_pos hc, if_pos (by omega), Int.toNat_natCast, e]
   have := set_next (f := bodyK p (toK R n)) (y := (k : Int)) hlt
   rw [← this]
   unfold bodyK
   rw [Int.toNat_natCast]
  ·have e : fkK R (k + 1) = fkK R k := by rw [fkK, if_neg hc]
   rw [if_neg hc, if_neg (by omega), e]
def keepP (p : Pg) (R : List Int) (n : Nat) : Pg := R.map (bodyK p (toK R n))
theorem num_keep {p : Pg} {R : List Int} {n : Nat} (ha : Asc R) (hr : Rng n R) : numU p (toK R n) R.length n = keepP p R n := by
 have hf := fkK_full ha hr
 rw [numU_toK (by rw [hf]; exact Nat.le_refl _) n (Nat.le_refl _), hf, Nat.sub_self, List.replicate_zero, List.append_nil]
 rfl
theorem many_keep {R : List Int} {n : Nat} (ha : Asc R) (hr : Rng n R) : manyU (toK R n) n = (R.length : Int) := by rw [manyU_toK n (Nat.le_refl _), fkK_full ha hr]
theorem at_keep {R : List Int} {n j : Nat} {g : Int} (ha : Asc R) (hr : Rng n R) (h : R[j]? = some g) : ∃ i : Nat, g = i ∧ i < n ∧ (toK R n)[i]? = some (j : Int) := by
 rw [← fkK_full ha hr] at h
 obtain ⟨i, rfl, hi, hc, hl⟩ := fkK_at h
 refine ⟨i, rfl, hi, ?_⟩
 rw [toK_get hi, tvK, if_pos hc, hl]
def toJ (R : List Int) (n : Nat) : Nat → List Int
 | 0 => List.replicate n 0
 | k + 1 => match R[k]? with
  | some g => (toJ R n k).set g.toNat (k : Int)
  | none => toJ R n k
theorem toJ_next {R : List Int} {n k : Nat} {g : Int} (h : R[k]? = some g) : toJ R n (k + 1) = (toJ R n k).set g.toNat (k : Int) := by rw [toJ, h]
theorem toJ_len (R : List Int) (n : Nat) : ∀ k, (toJ R n k).length = n
 | 0 => by simp [toJ]
 | k + 1 => by
  have ih := toJ_len R n k
  rw [toJ]
  split
  ·rw [List.length_set]; exact ih
  ·exact ih
theorem asc_lt {R : List Int} (ha : Asc R) {i j : Nat} {x y : Int} (hx : R[i]? = some x) (hy : R[j]? = some y) (h : i < j) : x < y := by
 obtain ⟨h1, e1⟩ := List.getElem?_eq_some_iff.1 hx
 obtain ⟨h2, e2⟩ := List.getElem?_eq_some_iff.1 hy
 have := List.pairwise_iff_getElem.1 ha i j h1 h2 h
 omega
theorem toJ_at {R : List Int} {n j : Nat} {g : Int} (ha : Asc R) (hr : Rng n R) (h : R[j]? = some g) : ∀ k, j < k → (toJ R n k)[g.toNat]? = some (j : Int)
 | 0, hk => absurd hk (Nat.not_lt_zero _)
 | k + 1, hk => by
  have hg := hr g (List.mem_of_getElem? h)
  by_cases hjk : j = k
  ·subst hjk
   rw [toJ_next h, List.getElem?_set_self (by rw [toJ_len]; omega)]
  ·have ih := toJ_at ha hr h k (by omega)
   rw [toJ]
   split
   ·rename_i g' hg'
    have := asc_lt ha h hg' (by omega)
    rw [List.getElem?_set_ne (by omega)]
    exact ih
   ·exact ih
def updU (f : Int → List Tr) (b : Pg) (R : List Int) : Nat → Pg
 | 0 => b
 | k + 1 => match R[k]? with
  | some g => (updU f b R k).set k (f g)
  | none => updU f b R k
theorem updU_next {f : Int → List Tr} {b : Pg} {R : List Int} {k : Nat} {g : Int} (h : R[k]? = some g) : updU f b R (k + 1) = (updU f b R k).set k (f g) := by rw [updU, h]
theorem updU_len (f : Int → List Tr) (b : Pg) (R : List Int) : ∀ k, (updU f b R k).length = b.length
 | 0 => rfl
 | k + 1 => by
  have ih := updU_len f b R k
  rw [updU]
  split
  ·rw [List.length_set]; exact ih
  ·exact ih
theorem updU_ge {f : Int → List Tr} {b : Pg} {R : List Int} {i : Nat} : ∀ k, k ≤ i → (updU f b R k)[i]? = b[i]?
 | 0, _ => rfl
 | k + 1, h => by
  have ih := updU_ge (f := f) (b := b) (R := R) (i := i) k (by omega)
  rw [updU]
  split
  ·rw [List.getElem?_set_ne (by omega)]; exact ih
  ·exact ih
theorem updU_lt {f : Int → List Tr} {b : Pg} {R : List Int} {i : Nat} {g : Int} (h : R[i]? = some g) (hb : i < b.length) : ∀ k, i < k → (updU f b R k)[i]? = some (f g)
 | 0, hk => absurd hk (Nat.not_lt_zero _)
 | k + 1, hk => by
  by_cases hik : i = k
  ·subst hik
   rw [updU_next h, List.getElem?_set_self (by rw [updU_len]; exact hb)]
  ·have ih := updU_lt (f := f) h hb k (by omega)
   rw [updU]
   split
   ·rw [List.getElem?_set_ne (by omega)]; exact ih
   ·exact ih
theorem updU_all {f : Int → List Tr} {b : Pg} {R : List Int} (hb : b.length = R.length) : updU f b R R.length = R.map f := by
 apply List.ext_getElem?
 intro i
 by_cases hi : i < R.length
 ·have h := List.getElem?_eq_getElem hi
  rw [updU_lt h (by omega) _ hi, List.getElem?_map, h]
  rfl
 ·rw [List.getElem?_eq_none (by rw [updU_len]; omega), List.getElem?_eq_none (by rw [List.length_map]; omega)]
theorem addN_pre {l : List Int} {y : Int} : ∃ t, addN l y = l ++ t := by
 unfold addN
 split
 ·exact ⟨[], by simp⟩
 ·exact ⟨[y], rfl⟩
theorem addsN_pre : ∀ (ys l : List Int), ∃ t, addsN l ys = l ++ t
 | [], l => ⟨[], by simp [addsN]⟩
 | y :: ys, l => by
  obtain ⟨t, ht⟩ := addN_pre (l := l) (y := y)
  obtain ⟨u, hu⟩ := addsN_pre ys (addN l y)
  refine ⟨t ++ u, ?_⟩
  show addsN (addN l y) ys = _
  rw [hu, ht, List.append_assoc]
theorem addN_mem {l : List Int} {y : Int} : y ∈ addN l y := by
 unfold addN
 split
 ·rename_i h; exact List.contains_iff_mem.1 h
 ·simp
theorem addsN_mem {x : Int} : ∀ (ys l : List Int), x ∈ ys → x ∈ addsN l ys
 | [], l, h => by cases h
 | y :: ys, l, h => by
  show x ∈ addsN (addN l y) ys
  rcases List.mem_cons.1 h with rfl | h
  ·obtain ⟨t, ht⟩ := addsN_pre ys (addN l x)
   rw [ht]
   exact List.mem_append_left _ addN_mem
  ·exact addsN_mem ys _ h
theorem rch_pre {next : Int → List Int} {f : Int} {i : Nat} : ∀ d, ∃ t, rch next f (i + d) = rch next f i ++ t
 | 0 => ⟨[], by simp⟩
 | d + 1 => by
  obtain ⟨t, ht⟩ := rch_pre (next := next) (f := f) (i := i) d
  rw [show i + (d + 1) = (i + d) + 1 by omega, rch]
  split
  ·rename_i g hg
   obtain ⟨u, hu⟩ := addsN_pre (next g) (rch next f (i + d))
   exact ⟨t ++ u, by rw [hu, ht, List.append_assoc]⟩
  ·exact ⟨t, ht⟩
theorem rch_closed {next : Int → List Int} {f g x : Int} {n : Nat} (hf : 0 ≤ f ∧ f < n) (hn : ∀ g : Int, 0 ≤ g → g < n → Rng n (next g)) (hg : g ∈ rch next f n) (hx : x ∈ next g) : x ∈ rch next f n := by
 obtain ⟨i, hi⟩ := List.getElem?_of_mem hg
 obtain ⟨h1, h2⟩ := rch_ok hf hn n
 have hln := nodup_len h1 h2
 have hil := (List.getElem?_eq_some_iff.1 hi).1
 obtain ⟨t, ht⟩ := rch_pre (next := next) (f := f) (i := i) (n - i)
 rw [show i + (n - i) = n by omega] at ht
 by_cases hl : (rch next f i).length ≤ i
 ·have := rch_all hf hn hl (by omega)
  rw [this] at hil
  omega
 ·have hgi : (rch next f i)[i]? = some g := by
   rw [ht, List.getElem?_append_left (by omega)] at hi
   exact hi
  have hnx := rch_next hgi
  obtain ⟨u, hu⟩ := rch_pre (next := next) (f := f) (i := i + 1) (n - (i + 1))
  rw [show i + 1 + (n - (i + 1)) = n by omega] at hu
  rw [hu, hnx]
  exact List.mem_append_left _ (addsN_mem _ _ hx)
theorem rawC_has {b : List Tr} {i : Nat} {s : Tr} (h : b[i]? = some s) (hk : s.1 = 4 ∨ s.1 = 5) : ∀ j, i < j → s.2.1 ∈ rawC b j
 | 0, hj => absurd hj (Nat.not_lt_zero _)
 | j + 1, hj => by
  by_cases hij : i = j
  ·subst hij
   rw [rawC_yes h hk]
   simp
  ·have ih := rawC_has h hk j (by omega)
   cases hs : b[j]? with
   | none => rw [rawC, hs]; exact ih
   | some s' =>
    by_cases hk' : s'.1 = 4 ∨ s'.1 = 5
    ·rw [rawC_yes hs hk']; exact List.mem_append_left _ ih
    ·rw [rawC_no hs hk']; exact ih
theorem reach_closed {p : Pg} {nf : Nat} {g : Int} {s : Tr} (hp : okProg p = true) (hnf : nf < p.length) (hg : g ∈ reachL p nf) (hs : s ∈ p.getD g.toNat []) (hk : s.1 = 4 ∨ s.1 = 5) : s.2.1 ∈ reachL p nf := by
 unfold reachL at *
 rw [setS_mem] at *
 refine rch_closed (n := p.length) ⟨by omega, by omega⟩ (fun g _ _ => next_rng hp rfl g) hg ?_
 unfold nextP callsL
 rw [setS_mem]
 obtain ⟨i, hi⟩ := List.getElem?_of_mem hs
 exact rawC_has hi hk _ (List.getElem?_eq_some_iff.1 hi).1
theorem reach_asc (p : Pg) (nf : Nat) : Asc (reachL p nf) := setS_asc _
theorem reach_rng {p : Pg} {nf : Nat} (hp : okProg p = true) (hnf : nf < p.length) : Rng p.length (reachL p nf) := by
 intro x hx
 unfold reachL at hx
 rw [setS_mem] at hx
 exact (rch_ok (n := p.length) (f := nf) ⟨by omega, by omega⟩ (fun g _ _ => next_rng hp rfl g) p.length).2 x hx
theorem reach_self {p : Pg} {nf : Nat} : (nf : Int) ∈ reachL p nf := by
 unfold reachL
 rw [setS_mem]
 obtain ⟨t, ht⟩ := rch_pre (next := nextP p) (f := (nf : Int)) (i := 0) p.length
 rw [Nat.zero_add] at ht
 rw [ht]
 simp [rch]
theorem body_same {p : Pg} {R : List Int} {n : Nat} {g : Int} (ha : Asc R) (hr : Rng n R) (hc : ∀ s ∈ p.getD g.toNat [], s.1 = 4 ∨ s.1 = 5 → s.2.1 ∈ R) : bodyK p (toJ R n R.length) g = bodyK p (toK R n) g := by
 unfold bodyK numB
 apply List.map_congr_left
 intro s hs
 unfold numS
 by_cases hk : s.1 = 4 ∨ s.1 = 5
 ·rw [if_pos hk, if_pos hk]
  obtain ⟨j, hj⟩ := List.getElem?_of_mem (hc s hs hk)
  have h1 := toJ_at ha hr hj R.length (List.getElem?_eq_some_iff.1 hj).1
  obtain ⟨i, e, hi, h2⟩ := at_keep ha hr hj
  rw [List.getD_eq_getElem?_getD, List.getD_eq_getElem?_getD, h1, e, Int.toNat_natCast, h2]
 ·rw [if_neg hk, if_neg hk]
theorem keep_same {p : Pg} {nf : Nat} (hp : okProg p = true) (hnf : nf < p.length) : (reachL p nf).map (bodyK p (toJ (reachL p nf) p.length (reachL p nf).length)) = keepP p (reachL p nf) p.length := by
 unfold keepP
 apply List.map_congr_left
 intro g hg
 exact body_same (reach_asc p nf) (reach_rng hp hnf) (fun s hs hk => reach_closed hp hnf hg hs hk)
def keptR (p : Pg) (f : Int) : Pg × Int × Bool := if isFn p f = true then (keepP p (reachL p f.toNat) p.length, (toK (reachL p f.toNat) p.length).getD f.toNat 0, true) else ([], 0, false)
end Go.Proofs.Ytdmcgkcpclepfaa.Krp
-- squeezed
