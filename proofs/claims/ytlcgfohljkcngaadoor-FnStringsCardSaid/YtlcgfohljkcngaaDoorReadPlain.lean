/- Plain facts on decimal numerals: a numeral of at most six digits reads as its number, by the model's reading and by that of the library; no condition on a program. -/
import Derived.Lib.ItoaNum
import Derived.Lib.AtoiAll
namespace Go.Proofs.YtlcgfohljkcngaaDoor.ReadPlain
def dg1 (c : UInt8) : Bool := decide (48 ≤ c.toNat) && decide (c.toNat ≤ 57)
def vstep (n : Int) (c : UInt8) : Int := 10 * n + ((c.toNat : Int) - 48)
def val (l : List UInt8) : Int := l.foldl vstep 0
def digs (l : List UInt8) : Bool := l.all dg1
theorem dg1_iff (c : UInt8) : dg1 c = true ↔ 48 ≤ c.toNat ∧ c.toNat ≤ 57 := by simp [dg1]
theorem val_snoc (l : List UInt8) (c : UInt8) : val (l ++ [c]) = 10 * val l + ((c.toNat : Int) - 48) := by simp [val, vstep]
theorem digs_snoc (l : List UInt8) (c : UInt8) : digs (l ++ [c]) = (digs l && dg1 c) := by simp [digs]
theorem val_bd_rev (r : List UInt8) : digs r.reverse = true → 0 ≤ val r.reverse ∧ val r.reverse < (10 ^ r.length : Nat) := by
  induction r with
  | nil => intro _; simp [val]
  | cons c r ih =>
    intro h
    rw [List.reverse_cons, digs_snoc, Bool.and_eq_true, dg1_iff] at h
    obtain ⟨i0, i1⟩ := ih h.1
    rw [List.reverse_cons, val_snoc]
    simp only [List.length_cons, Nat.pow_succ]
    push_cast at i1 ⊢
    omega
theorem val_bd (l : List UInt8) (h : digs l = true) : 0 ≤ val l ∧ val l < (10 ^ l.length : Nat) := by
  have := val_bd_rev l.reverse (by simpa using h)
  simpa using this
theorem ofNat_toNat (k : Nat) (h : k < 10) : (UInt8.ofNat (48 + k)).toNat = 48 + k := by
  rw [UInt8.toNat_ofNat']; omega
theorem dec_facts (u : Nat) : digs (Lib.decDigits u) = true ∧ val (Lib.decDigits u) = u ∧ Lib.decDigits u ≠ [] ∧ (Lib.decDigits u).head? ≠ some 45 := by
  induction u using Nat.strongRecOn with
  | _ u ih =>
    by_cases h : u < 10
    · rw [Lib.decDigits, dif_pos h]
      have e := ofNat_toNat u h
      refine ⟨?_, ?_, by simp, ?_⟩
      · simp only [digs, List.all_cons, List.all_nil, Bool.and_true]; rw [dg1_iff, e]; omega
      · simp only [val, List.foldl_cons, List.foldl_nil, vstep]; rw [e]; push_cast; omega
      · intro hh
        simp only [List.head?_cons, Option.some.injEq] at hh
        rw [hh] at e
        have : (45 : UInt8).toNat = 45 := rfl
        omega
    · obtain ⟨i1, i2, i3, i4⟩ := ih (u / 10) (by omega)
      rw [Lib.decDigits, dif_neg h]
      have e := ofNat_toNat (u % 10) (by omega)
      refine ⟨?_, ?_, by simp, ?_⟩
      · rw [digs_snoc, i1, Bool.true_and, dg1_iff, e]; omega
      · rw [val_snoc, i2, e]; push_cast; omega
      · rw [List.head?_append]
        cases hl : (Lib.decDigits (u / 10)) with
        | nil => exact absurd hl i3
        | cons a r => rw [hl] at i4; simpa using i4
theorem parse_snoc (l : List UInt8) : ∀ (acc v : Nat) (c : UInt8), Lib.parseUint10 acc l = .ok v → 48 ≤ c.toNat → c.toNat ≤ 57 → v < 1844674407370955161 → Lib.parseUint10 acc (l ++ [c]) = .ok (v * 10 + (c.toNat - 48)) := by
  induction l with
  | nil =>
    intro acc v c h h1 h2 hv
    simp only [Lib.parseUint10] at h
    injection h with h
    subst h
    simp only [List.nil_append, Lib.parseUint10]
    rw [if_pos ⟨h1, h2⟩, if_neg (by omega), if_neg (by omega)]
  | cons b r ih =>
    intro acc v c h h1 h2 hv
    simp only [List.cons_append, Lib.parseUint10] at h ⊢
    split at h
    · rename_i hb
      rw [if_pos hb]
      split at h
      · cases h
      · rename_i ha
        rw [if_neg ha]
        split at h
        · cases h
        · rename_i hc
          rw [if_neg hc]
          exact ih _ _ _ h h1 h2 hv
    · cases h
theorem parse_dec (u : Nat) : u < 1000000 → Lib.parseUint10 0 (Lib.decDigits u) = .ok u := by
  induction u using Nat.strongRecOn with
  | _ u ih =>
    intro hu
    by_cases h : u < 10
    · rw [Lib.decDigits, dif_pos h]
      have e := ofNat_toNat u h
      simp only [Lib.parseUint10]
      rw [e, if_pos (by omega), if_neg (by omega), if_neg (by omega)]
      congr 1; omega
    · rw [Lib.decDigits, dif_neg h]
      have e := ofNat_toNat (u % 10) (by omega)
      rw [parse_snoc _ _ _ _ (ih (u / 10) (by omega) (by omega)) (by omega) (by omega) (by omega), e]
      congr 1; omega
theorem mag_dec (u : Nat) (h : u < 1000000) : Lib.parseMag (Lib.decDigits u) = .ok u := by
  unfold Lib.parseMag
  rw [if_neg (dec_facts u).2.2.1, parse_dec u h]
theorem atoi_itoa (n : Int) (h0 : -999999 ≤ n) (h1 : n ≤ 999999) : Lib.atoiAll (Lib.itoa n) = .ok n := by
  unfold Lib.itoa
  split
  · rename_i hn
    unfold Lib.atoiAll
    have : (45 : UInt8).toNat = 45 := rfl
    simp only [this]
    rw [if_pos (Or.inr trivial), mag_dec _ (by omega)]
    simp only []
    rw [if_neg (by simp), if_neg (by omega), if_pos trivial]
    congr 1; omega
  · rename_i hn
    obtain ⟨k, rfl⟩ := Int.eq_ofNat_of_zero_le (Int.not_lt.1 hn)
    have hf := dec_facts k
    have hm := mag_dec k (by omega)
    rw [Int.toNat_natCast]
    cases hl : Lib.decDigits k with
    | nil => exact absurd hl hf.2.2.1
    | cons c r =>
      rw [hl] at hf hm
      have hd : 48 ≤ c.toNat ∧ c.toNat ≤ 57 := by
        have := hf.1
        simp only [digs, List.all_cons, Bool.and_eq_true] at this
        exact (dg1_iff c).1 this.1
      unfold Lib.atoiAll
      simp only []
      rw [if_neg (by omega), hm]
      simp only []
      rw [if_neg (by omega), if_neg (by omega), if_neg (by omega)]
/-- What the reading comes to: t is what stands behind the sign, l the whole. -/
def sgn (l t : List UInt8) : Int := if t.length < l.length then -(val t) else val t
def rdT (l t : List UInt8) : Option Int := if digs t = true ∧ Lib.itoa (sgn l t) = l then some (sgn l t) else none
def tailOf (l : List UInt8) : List UInt8 := if 1 < l.length ∧ l.head? = some 45 then l.tail else l
/-- The model's reading, as a function of lists. -/
def rd (l : List UInt8) : Option Int := if 1 ≤ (tailOf l).length ∧ (tailOf l).length ≤ 6 then rdT l (tailOf l) else none
theorem dec_len (k : Nat) : ∀ n, n < 10 ^ (k + 1) → (Lib.decDigits n).length ≤ k + 1 := by
  induction k with
  | zero => intro n h; rw [Lib.decDigits_one (by omega)]; simp
  | succ k ih =>
    intro n h
    by_cases h1 : n < 10
    · rw [Lib.decDigits_one h1]; simp
    · rw [Lib.decDigits, dif_neg h1]
      have := ih (n / 10) (by rw [Nat.pow_succ] at h; omega)
      simp; omega
theorem sgn_bd (l t : List UInt8) (hd : digs t = true) (h : t.length ≤ 6) : -999999 ≤ sgn l t ∧ sgn l t ≤ 999999 := by
  obtain ⟨a, b⟩ := val_bd t hd
  have : (10 ^ t.length : Nat) ≤ 10 ^ 6 := Nat.pow_le_pow_right (by omega) h
  unfold sgn
  split <;> omega
theorem rd_some {l : List UInt8} {n : Int} (h : rd l = some n) : Lib.itoa n = l ∧ -999999 ≤ n ∧ n ≤ 999999 := by
  unfold rd at h
  split at h
  · rename_i hl
    unfold rdT at h
    split at h
    · rename_i hh
      injection h with h
      subst h
      exact ⟨hh.2, sgn_bd _ _ hh.1 hl.2⟩
    · cases h
  · cases h
theorem rd_itoa (n : Int) (h0 : -999999 ≤ n) (h1 : n ≤ 999999) : rd (Lib.itoa n) = some n := by
  by_cases hn : n < 0
  · have e : Lib.itoa n = 45 :: Lib.decDigits n.natAbs := by rw [Lib.itoa, if_pos hn]
    obtain ⟨f1, f2, f3, f4⟩ := dec_facts n.natAbs
    have hl := dec_len 5 n.natAbs (by omega)
    have hp : 1 ≤ (Lib.decDigits n.natAbs).length := by cases hh : Lib.decDigits n.natAbs with | nil => exact absurd hh f3 | cons a r => simp
    have ht : tailOf (Lib.itoa n) = Lib.decDigits n.natAbs := by
      unfold tailOf
      rw [e, if_pos ⟨by simp; omega, by simp⟩, List.tail_cons]
    have hs : sgn (Lib.itoa n) (Lib.decDigits n.natAbs) = n := by
      unfold sgn
      rw [e, if_pos (by simp), f2]; omega
    unfold rd
    rw [ht, if_pos ⟨hp, hl⟩]
    unfold rdT
    rw [hs, if_pos ⟨f1, rfl⟩]
  · obtain ⟨k, rfl⟩ := Int.eq_ofNat_of_zero_le (Int.not_lt.1 hn)
    have e : Lib.itoa (k : Int) = Lib.decDigits k := by rw [Lib.itoa, if_neg hn]; rfl
    obtain ⟨f1, f2, f3, f4⟩ := dec_facts k
    have hl := dec_len 5 k (by omega)
    have hp : 1 ≤ (Lib.decDigits k).length := by cases hh : Lib.decDigits k with | nil => exact absurd hh f3 | cons a r => simp
    have ht : tailOf (Lib.itoa (k : Int)) = Lib.decDigits k := by
      unfold tailOf
      rw [e, if_neg (fun hh => f4 hh.2)]
    have hs : sgn (Lib.itoa (k : Int)) (Lib.decDigits k) = k := by
      unfold sgn
      rw [e, if_neg (by omega), f2]
    unfold rd
    rw [ht, if_pos ⟨hp, hl⟩]
    unfold rdT
    rw [hs, if_pos ⟨f1, rfl⟩]
/-- The program's answer by the library's reading is the model's. -/
theorem rd_of_atoi {l : List UInt8} : rd l = match Lib.atoiAll l with | .ok v => (if -999999 ≤ v ∧ v ≤ 999999 ∧ Lib.itoa v = l then some v else none) | _ => none := by
  cases hr : rd l with
  | some n =>
    obtain ⟨e, b0, b1⟩ := rd_some hr
    rw [← e, atoi_itoa n b0 b1]
    simp only []
    rw [if_pos ⟨b0, b1, trivial⟩]
  | none =>
    split
    · rename_i v hv
      rw [if_neg]
      rintro ⟨b0, b1, e⟩
      rw [← e, rd_itoa v b0 b1] at hr
      cases hr
    · rfl
theorem take_snoc (s : ByteArray) (k : Nat) (h : k < s.size) : s.data.toList.take (k + 1) = s.data.toList.take k ++ [s[k]] := by
  rw [List.take_succ_eq_append_getElem (by simpa using h)]; rfl
theorem digs_next (s : ByteArray) (k : Nat) (h : k < s.size) : digs (s.data.toList.take (k + 1)) = (digs (s.data.toList.take k) && dg1 s[k]) := by
  rw [take_snoc s k h, digs_snoc]
theorem val_next (s : ByteArray) (k : Nat) (h : k < s.size) : val (s.data.toList.take (k + 1)) = 10 * val (s.data.toList.take k) + ((s[k].toNat : Int) - 48) := by
  rw [take_snoc s k h, val_snoc]
theorem digs_no (s : ByteArray) (k : Nat) (h : k < s.size) (hd : dg1 s[k] = false) : digs s.data.toList = false := by
  rw [digs, List.all_eq_false]
  exact ⟨s[k], by show s.data[k] ∈ _; simp, by rw [hd]; simp⟩
/-- The reading's end, as the call's. -/
def out (o : Option Int) : Int × Bool := match o with | some n => (n, true) | none => (0, false)
end Go.Proofs.YtlcgfohljkcngaaDoor.ReadPlain
