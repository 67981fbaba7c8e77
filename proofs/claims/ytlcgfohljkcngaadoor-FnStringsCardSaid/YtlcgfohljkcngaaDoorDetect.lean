/- Plain facts: a sealed string with one byte changed is the sealed form of no string; no condition on a program. -/
import Derived.Test.YtlcgfohljkcngaaDoorSumPlain
import Derived.Test.YtlcgfohljkcngaaDoorReadPlain
namespace Go.Proofs.YtlcgfohljkcngaaDoor.Detect
open SumPlain ReadPlain
theorem step_inj (h h' : Int) (q : UInt8) (a0 : 0 ≤ h) (a1 : h ≤ 999978) (b0 : 0 ≤ h') (b1 : h' ≤ 999978) (e : SumPlain.step h q = SumPlain.step h' q) : h = h' := by
  unfold SumPlain.step at e
  omega
theorem step_byte (h : Int) (a c : UInt8) (e : SumPlain.step h a = SumPlain.step h c) : a = c := by
  unfold SumPlain.step at e
  have h1 := a.toNat_lt
  have h2 := c.toNat_lt
  exact UInt8.toNat_inj.1 (by omega)
theorem fold_inj (l : List UInt8) : ∀ h h' : Int, 0 ≤ h → h ≤ 999978 → 0 ≤ h' → h' ≤ 999978 → l.foldl SumPlain.step h = l.foldl SumPlain.step h' → h = h' := by
  induction l with
  | nil => intro h h' _ _ _ _ e; exact e
  | cons q r ih =>
    intro h h' a0 a1 b0 b1 e
    have e2 := ih (SumPlain.step h q) (SumPlain.step h' q) (step_bd _ _).1 (step_bd _ _).2 (step_bd _ _).1 (step_bd _ _).2 e
    exact step_inj h h' q a0 a1 b0 b1 e2
theorem ck_set (X : List UInt8) (k : Nat) (c : UInt8) (hk : k < X.length) (hc : X[k] ≠ c) : ck (X.set k c) ≠ ck X := by
  intro e
  have h1 : X = X.take k ++ X[k] :: X.drop (k + 1) := by rw [← List.drop_eq_getElem_cons hk, List.take_append_drop]
  have h2 : X.set k c = X.take k ++ c :: X.drop (k + 1) := by rw [List.set_eq_take_append_cons_drop, if_pos hk]
  rw [h2] at e
  have e' : ck (X.take k ++ c :: X.drop (k + 1)) = ck (X.take k ++ X[k] :: X.drop (k + 1)) := by rw [e, ← h1]
  unfold ck at e'
  rw [List.foldl_append, List.foldl_append, List.foldl_cons, List.foldl_cons] at e'
  have e2 := fold_inj _ _ _ (step_bd _ _).1 (step_bd _ _).2 (step_bd _ _).1 (step_bd _ _).2 e'
  exact hc (step_byte _ _ _ e2).symm
theorem itoa_inj (a b : Int) (a0 : 0 ≤ a) (a1 : a ≤ 999978) (b0 : 0 ≤ b) (b1 : b ≤ 999978) (e : Lib.itoa a = Lib.itoa b) : a = b := by
  have h1 := atoi_itoa a (by omega) (by omega)
  rw [e, atoi_itoa b (by omega) (by omega)] at h1
  injection h1 with h1
  exact h1.symm
theorem itoa_no (n : Int) (h0 : 0 ≤ n) : (35 : UInt8) ∉ Lib.itoa n := by
  obtain ⟨k, rfl⟩ := Int.eq_ofNat_of_zero_le h0
  have e : Lib.itoa (k : Int) = Lib.decDigits k := by rw [Lib.itoa, if_neg (by omega)]; rfl
  rw [e]
  intro hm
  have hd := (dec_facts k).1
  rw [digs, List.all_eq_true] at hd
  have := hd 35 hm
  simp [dg1] at this
/-- Where the sign stands. -/
theorem only (T E : List UInt8) (hT : (35 : UInt8) ∉ T) (hE : (35 : UInt8) ∉ E) (i : Nat) (h : (T ++ 35 :: E)[i]? = some 35) : i = T.length := by
  rcases Nat.lt_trichotomy i T.length with hi | hi | hi
  · rw [List.getElem?_append_left hi] at h
    exact absurd (List.mem_of_getElem? h) hT
  · exact hi
  · rw [List.getElem?_append_right (by omega)] at h
    obtain ⟨d, hd⟩ : ∃ d, i - T.length = d + 1 := ⟨i - T.length - 1, by omega⟩
    rw [hd, List.getElem?_cons_succ] at h
    exact absurd (List.mem_of_getElem? h) hE
theorem at_sign (T E : List UInt8) : (T ++ 35 :: E)[T.length]? = some 35 := by
  rw [List.getElem?_append_right (Nat.le_refl _)]; simp
theorem detect (X T : List UInt8) (k : Nat) (c : UInt8) (hX : (35 : UInt8) ∉ X) (hT : (35 : UInt8) ∉ T) (hk : k < (X ++ 35 :: Lib.itoa (ck X)).length) (hc : (X ++ 35 :: Lib.itoa (ck X))[k] ≠ c)
    (e : (X ++ 35 :: Lib.itoa (ck X)).set k c = T ++ 35 :: Lib.itoa (ck T)) : False := by
  have hD := itoa_no _ (ck_bd X).1
  have hE := itoa_no _ (ck_bd T).1
  have hne : ∀ i, i ≠ k → ((X ++ 35 :: Lib.itoa (ck X)).set k c)[i]? = (X ++ 35 :: Lib.itoa (ck X))[i]? := fun i hi => by
    rw [List.getElem?_set, if_neg (Ne.symm hi)]
  have hkk : ((X ++ 35 :: Lib.itoa (ck X)).set k c)[k]? = some c := by
    rw [List.getElem?_set, if_pos rfl, if_pos hk]
  have hyk : (X ++ 35 :: Lib.itoa (ck X))[k]? = some (X ++ 35 :: Lib.itoa (ck X))[k] := by simp
  have hkX : k ≠ X.length := by
    intro hkx
    have h1 := at_sign X (Lib.itoa (ck X))
    rw [← hkx, hyk] at h1
    have h35 := Option.some.inj h1
    have h2 := at_sign T (Lib.itoa (ck T))
    rw [← e] at h2
    by_cases ht : T.length = k
    · rw [ht, hkk] at h2
      exact hc (h35.trans (Option.some.inj h2).symm)
    · rw [hne _ ht] at h2
      have := only X _ hX hD _ h2
      omega
  have hlen : X.length = T.length := by
    have h1 := at_sign X (Lib.itoa (ck X))
    rw [← hne _ (Ne.symm hkX), e] at h1
    exact only T _ hT hE _ h1
  rcases Nat.lt_or_gt_of_ne hkX with hlt | hgt
  · have h1 : (X ++ 35 :: Lib.itoa (ck X)).set k c = X.set k c ++ 35 :: Lib.itoa (ck X) := by rw [List.set_append_left _ _ hlt]
    rw [h1] at e
    obtain ⟨e1, e2⟩ := List.append_inj e (by simp [hlen])
    injection e2 with _ e3
    have e4 := itoa_inj _ _ (ck_bd X).1 (ck_bd X).2 (ck_bd T).1 (ck_bd T).2 e3
    rw [← e1] at e4
    refine ck_set X k c hlt ?_ e4.symm
    intro h2
    apply hc
    rw [List.getElem_append_left hlt]
    exact h2
  · have h1 : (X ++ 35 :: Lib.itoa (ck X)).set k c = X ++ (35 :: Lib.itoa (ck X)).set (k - X.length) c := by rw [List.set_append_right _ _ (by omega)]
    rw [h1] at e
    obtain ⟨e1, e2⟩ := List.append_inj e hlen
    rw [← e1] at e2
    have h3 : ((35 :: Lib.itoa (ck X)).set (k - X.length) c)[k - X.length]? = some c := by
      rw [List.getElem?_set, if_pos rfl, if_pos (by rw [List.length_append] at hk; omega)]
    rw [e2] at h3
    rw [List.getElem?_append_right (by omega), h3] at hyk
    exact hc (Option.some.inj hyk).symm
end Go.Proofs.YtlcgfohljkcngaaDoor.Detect
