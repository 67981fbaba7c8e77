/- MendEntries as pure functions: what is kept, and what is closed behind it. -/
import Derived.Test.YtikdcnlbjpabjaaEmf
namespace Go.Proofs.Ytikdcnlbjpabjaa.EdP
set_option linter.unusedVariables false
set_option linter.unusedSimpArgs false
open Mem IntsP LiP EntP

/-- One entry is kept, or not: the open resources and the entries kept. -/
def kst (s : List Int × List Int) (x : Int) : List Int × List Int := if fltB s.1 x = true then s else (stepO s.1 x, s.2 ++ [x])
theorem kst_no {s : List Int × List Int} {x : Int} (h : fltB s.1 x = true) : kst s x = s := by unfold kst; rw [if_pos h]
theorem kst_yes {s : List Int × List Int} {x : Int} (h : fltB s.1 x = false) : kst s x = (stepO s.1 x, s.2 ++ [x]) := by unfold kst; rw [if_neg (by rw [h]; decide)]
def keptS (xs : List Int) : Nat → List Int × List Int
  | 0 => ([], [])
  | k + 1 => kst (keptS xs k) (xs.getD k 0)
theorem keptS_succ {xs : List Int} {k : Nat} {x : Int} (h : xs[k]? = some x) : keptS xs (k + 1) = kst (keptS xs k) x := by
  have e : xs.getD k 0 = x := by simp [h]
  show kst (keptS xs k) (xs.getD k 0) = _
  rw [e]
/-- The openings kept so far, the last one first. -/
def defS (xs : List Int) : Nat → List Int
  | 0 => []
  | k + 1 => if fltB (keptS xs k).1 (xs.getD k 0) = false ∧ 0 < xs.getD k 0 then (xs.getD k 0) :: defS xs k else defS xs k
theorem defS_yes {xs : List Int} {k : Nat} {x : Int} (h : xs[k]? = some x) (hf : fltB (keptS xs k).1 x = false) (hx : 0 < x) : defS xs (k + 1) = x :: defS xs k := by
  have e : xs.getD k 0 = x := by simp [h]
  show (if _ then _ else _) = _
  rw [e, if_pos ⟨hf, hx⟩]
theorem defS_no {xs : List Int} {k : Nat} {x : Int} (h : xs[k]? = some x) (hn : ¬ (fltB (keptS xs k).1 x = false ∧ 0 < x)) : defS xs (k + 1) = defS xs k := by
  have e : xs.getD k 0 = x := by simp [h]
  show (if _ then _ else _) = _
  rw [e, if_neg hn]
theorem defS_len (xs : List Int) : ∀ k, (defS xs k).length ≤ k
  | 0 => Nat.le_refl _
  | k + 1 => by
    have := defS_len xs k
    unfold defS
    split
    · rw [List.length_cons]; omega
    · omega
theorem kst_len (s : List Int × List Int) (x : Int) : (kst s x).2.length ≤ s.2.length + 1 := by
  unfold kst
  split
  · omega
  · rw [List.length_append, List.length_singleton]; omega
theorem keptS_len (xs : List Int) : ∀ k, (keptS xs k).2.length ≤ k
  | 0 => Nat.le_refl _
  | k + 1 => by
    have := keptS_len xs k
    have := kst_len (keptS xs k) (xs.getD k 0)
    show (kst _ _).2.length ≤ _
    omega
theorem mem_stepO {o o' : List Int} (h : ∀ y, y ∈ o ↔ y ∈ o') (x y : Int) : y ∈ stepO o x ↔ y ∈ stepO o' x := by
  unfold stepO
  split
  · exact h y
  · split
    · rw [List.mem_append, List.mem_append, mem_dropI, mem_dropI, h y]
    · rw [mem_dropI, mem_dropI, h y]
theorem mem_fault {o : List Int} {x y : Int} (hf : fltB o x = true) : y ∈ stepO o x ↔ y ∈ o := by
  rcases Int.lt_trichotomy x 0 with hs | hs | hs
  · rw [fltB_neg hs] at hf
    have hn : -x ∉ o := by simpa using hf
    unfold stepO
    rw [if_neg (by omega), if_neg (by omega), dropI_not hn]
  · subst hs; rw [fltB_zero] at hf; cases hf
  · rw [fltB_pos hs] at hf
    have hm : x ∈ o := of_decide_eq_true hf
    unfold stepO
    rw [if_neg (by omega), if_pos hs, List.mem_append, mem_dropI, List.mem_singleton]
    constructor
    · rintro (h | rfl)
      · exact h.1
      · exact hm
    · intro h
      by_cases e : y = x
      · exact .inr e
      · exact .inl ⟨h, e⟩
theorem fltB_mem {o o' : List Int} (h : ∀ y, y ∈ o ↔ y ∈ o') (x : Int) : fltB o x = fltB o' x := by
  unfold fltB
  rw [show decide (absI x ∈ o) = decide (absI x ∈ o') from by congr 1; exact propext (h _)]
theorem keptS_mem {xs : List Int} : ∀ {k : Nat}, k ≤ xs.length → ∀ y, y ∈ openK xs k ↔ y ∈ (keptS xs k).1
  | 0, _, y => by rw [openK_zero]; rfl
  | k + 1, hk, y => by
    obtain ⟨x, hx⟩ : ∃ x, xs[k]? = some x := ⟨_, List.getElem?_eq_getElem (by omega)⟩
    have ih := keptS_mem (xs := xs) (k := k) (by omega)
    rw [openK_succ hx, keptS_succ hx]
    cases hf : fltB (keptS xs k).1 x with
    | true =>
      rw [kst_no hf]
      rw [fltB_mem (fun y => (ih y).symm)] at hf
      rw [mem_fault hf, ih y]
    | false =>
      rw [kst_yes hf]
      exact mem_stepO ih x y
theorem keptS_flt {xs : List Int} {k : Nat} (hk : k ≤ xs.length) (x : Int) : fltB (keptS xs k).1 x = fltB (openK xs k) x := (fltB_mem (keptS_mem hk) x).symm
theorem openL_snoc (l : List Int) (x : Int) : openL (l ++ [x]) = stepO (openL l) x := by unfold openL; rw [List.foldl_append]; rfl
theorem keptS_open (xs : List Int) : ∀ k, (keptS xs k).1 = openL (keptS xs k).2
  | 0 => rfl
  | k + 1 => by
    have ih := keptS_open xs k
    show (kst _ _).1 = openL (kst _ _).2
    cases hf : fltB (keptS xs k).1 (xs.getD k 0) with
    | true => rw [kst_no hf]; exact ih
    | false => rw [kst_yes hf]; show stepO _ _ = openL (_ ++ [_]); rw [openL_snoc, ih]
/-- Open resources, the last one first, in the order of their openings. -/
inductive Rel : List Int → List Int → Prop
  | nil : Rel [] []
  | hit {P r : List Int} {n : Int} : Rel P r → n ∉ r → Rel (n :: P) (n :: r)
  | miss {P r : List Int} {n : Int} : Rel P r → n ∉ r → Rel (n :: P) r
theorem Rel.drop {P r : List Int} (h : Rel P r) (n : Int) : Rel P (dropI n r) := by
  induction h with
  | nil => exact .nil
  | @hit P r m h hm ih =>
    by_cases e : m = n
    · subst e
      rw [show dropI m (m :: r) = dropI m r by simp [dropI], dropI_not hm]
      exact .miss h hm
    · rw [show dropI n (m :: r) = m :: dropI n r by simp [dropI, e]]
      exact .hit ih (fun hc => hm (mem_dropI.1 hc).1)
  | @miss P r m h hm ih => exact .miss ih (fun hc => hm (mem_dropI.1 hc).1)
theorem dropI_rev (n : Int) (l : List Int) : dropI n l.reverse = (dropI n l).reverse := by unfold dropI; rw [List.filter_reverse]
theorem keptS_rel {xs : List Int} : ∀ {k : Nat}, k ≤ xs.length → Rel (defS xs k) (keptS xs k).1.reverse
  | 0, _ => .nil
  | k + 1, hk => by
    obtain ⟨x, hx⟩ : ∃ x, xs[k]? = some x := ⟨_, List.getElem?_eq_getElem (by omega)⟩
    have ih := keptS_rel (xs := xs) (k := k) (by omega)
    rw [keptS_succ hx]
    cases hf : fltB (keptS xs k).1 x with
    | true =>
      rw [kst_no hf, defS_no hx (by rw [hf]; rintro ⟨h, _⟩; cases h)]
      exact ih
    | false =>
      rw [kst_yes hf]
      rcases Int.lt_trichotomy x 0 with hs | hs | hs
      · rw [defS_no hx (by omega)]
        show Rel _ (stepO _ x).reverse
        unfold stepO
        rw [if_neg (by omega), if_neg (by omega), ← dropI_rev]
        exact ih.drop _
      · rw [defS_no hx (by omega), hs]
        exact ih
      · rw [defS_yes hx hf hs]
        rw [fltB_pos hs] at hf
        have hn : x ∉ (keptS xs k).1 := of_decide_eq_false hf
        show Rel _ (stepO _ x).reverse
        unfold stepO
        rw [if_neg (by omega), if_pos hs, dropI_not hn, List.reverse_append]
        exact .hit ih (by simpa using hn)
def closeAll (s : List Int × List Int) (P : List Int) : List Int × List Int := P.foldl (fun s n => kst s (-n)) s
theorem closeAll_rel {P r : List Int} (h : Rel P r) : ∀ (K : List Int), (∀ n ∈ P, 0 < n) → closeAll (r.reverse, K) P = ([], K ++ r.map (fun n => -n)) := by
  induction h with
  | nil => intro K _; simp [closeAll]
  | @hit P r n h hn ih =>
    intro K hp
    have h0 := hp n (List.mem_cons_self ..)
    have hflt : fltB (n :: r).reverse (-n) = false := by rw [fltB_neg (by omega)]; simp
    show closeAll (kst ((n :: r).reverse, K) (-n)) P = _
    rw [kst_yes hflt]
    have hst : stepO (n :: r).reverse (-n) = r.reverse := by
      unfold stepO
      rw [if_neg (by omega), if_neg (by omega), Int.neg_neg, List.reverse_cons, dropI_snoc, if_pos rfl, dropI_not (by simpa using hn)]
    rw [hst, ih (K ++ [-n]) (fun m hm => hp m (List.mem_cons_of_mem _ hm))]
    simp
  | @miss P r n h hn ih =>
    intro K hp
    have h0 := hp n (List.mem_cons_self ..)
    have hflt : fltB r.reverse (-n) = true := by rw [fltB_neg (by omega)]; simpa using hn
    show closeAll (kst (r.reverse, K) (-n)) P = _
    rw [kst_no hflt]
    exact ih K (fun m hm => hp m (List.mem_cons_of_mem _ hm))
theorem defS_pos (xs : List Int) : ∀ k, ∀ n ∈ defS xs k, 0 < n
  | 0 => by intro n hn; simp [defS] at hn
  | k + 1 => by
    intro n hn
    unfold defS at hn
    split at hn
    · rename_i h
      rcases List.mem_cons.1 hn with rfl | hn
      · exact h.2
      · exact defS_pos xs k n hn
    · exact defS_pos xs k n hn
/-- The entries mended. -/
def mendL (xs : List Int) : List Int := (keptS xs xs.length).2 ++ ((openL (keptS xs xs.length).2).reverse.map (fun n => -n))
theorem mendL_eq (xs : List Int) : closeAll (keptS xs xs.length) (defS xs xs.length) = ([], mendL xs) := by
  have h := closeAll_rel (keptS_rel (xs := xs) (Nat.le_refl _)) (keptS xs xs.length).2 (defS_pos xs _)
  rw [List.reverse_reverse] at h
  rw [show keptS xs xs.length = ((keptS xs xs.length).1, (keptS xs xs.length).2) from rfl, h]
  unfold mendL
  rw [← keptS_open]
def mendR (xs : List Int) : List Int × Bool := if goodL xs = true ∧ (mendL xs).length ≤ 60 then (mendL xs, true) else ([], false)
theorem mendR_no {xs : List Int} (h : goodL xs = false) : mendR xs = ([], false) := by unfold mendR; rw [if_neg (by rw [h]; rintro ⟨h, _⟩; cases h)]
theorem mendR_long {xs : List Int} (h : 60 < (mendL xs).length) : mendR xs = ([], false) := by unfold mendR; rw [if_neg (by rintro ⟨_, h2⟩; omega)]
theorem mendR_yes {xs : List Int} (h : goodL xs = true) (h2 : (mendL xs).length ≤ 60) : mendR xs = (mendL xs, true) := by unfold mendR; rw [if_pos ⟨h, h2⟩]
theorem mendR_len (xs : List Int) : (mendR xs).1.length ≤ 100000 := by
  unfold mendR
  split
  · rename_i h; exact Nat.le_trans h.2 (by omega)
  · simp
theorem mendL_len (xs : List Int) : (mendL xs).length ≤ xs.length + xs.length := by
  unfold mendL
  rw [List.length_append, List.length_map, List.length_reverse]
  have h1 := keptS_len xs xs.length
  have h2 := openL_len (keptS xs xs.length).2
  omega
end Go.Proofs.Ytikdcnlbjpabjaa.EdP
