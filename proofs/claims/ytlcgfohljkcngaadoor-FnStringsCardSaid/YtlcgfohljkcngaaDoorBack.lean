/- Plain facts: a sealed string verifies to what was sealed; with one byte changed it verifies to nothing; a byte changes by an exclusive or with a number that is not 0; no condition on a program. -/
import Derived.Test.YtlcgfohljkcngaaDoorVer
import Derived.Test.YtlcgfohljkcngaaDoorDetect
import Derived.Laws.BitsLemmas
namespace Go.Proofs.YtlcgfohljkcngaaDoor.Back
open SumPlain Seal Ver
theorem app_parts {x y : ByteArray} (h : app x = some y) : y = sealB x ∧ has x.data.toList 35 = false ∧ y.size ≤ 4000 ∧ 2 ≤ y.size := by
  unfold app at h
  split at h
  · rename_i hc
    obtain ⟨h1, h2, h3⟩ := hc
    injection h with h
    subst h
    refine ⟨rfl, h2, h3, ?_⟩
    rw [sealB_size]
    have : Lib.itoa (ck x.data.toList) ≠ [] := by
      obtain ⟨k, hk⟩ := Int.eq_ofNat_of_zero_le (ck_bd x.data.toList).1
      rw [hk]
      have e : Lib.itoa (k : Int) = Lib.decDigits k := by rw [Lib.itoa, if_neg (by omega)]; rfl
      rw [e]
      exact (ReadPlain.dec_facts k).2.2.1
    have := List.length_pos_iff.2 this
    omega
  · cases h
theorem no_mem {l : List UInt8} (h : has l 35 = false) : (35 : UInt8) ∉ l := by
  intro hm
  have : has l 35 = true := by rw [has, List.any_eq_true]; exact ⟨35, hm, by rfl⟩
  rw [h] at this
  cases this
theorem mk_list (s : ByteArray) (l : List UInt8) (h : s.data.toList = l) : s = ⟨l.toArray⟩ := by
  apply ByteArray.ext
  rw [← h]
theorem list_ext {s t : ByteArray} (h : s.data.toList = t.data.toList) : s = t := by
  rw [mk_list s _ h]
/-- Where the first sign stands in a sealed string. -/
theorem first_seal (x : ByteArray) (hx : (35 : UInt8) ∉ x.data.toList) : first (sealB x) = x := by
  have hL := sealB_list x
  have hat : (sealB x).data.toList[x.data.toList.length]? = some 35 := by rw [hL]; exact Detect.at_sign _ _
  by_cases h1 : Lib.indexByte (sealB x).data.toList 35 = -1
  · exact absurd hat (Lib.indexByte_none h1 _)
  · have hg := Lib.indexByte_ge (sealB x).data.toList 35
    obtain ⟨i, hi⟩ := Int.eq_ofNat_of_zero_le (show 0 ≤ Lib.indexByte (sealB x).data.toList 35 by omega)
    obtain ⟨e, _⟩ := first_some _ i hi
    obtain ⟨h2, h3⟩ := Lib.indexByte_some hi
    have hi2 : i = x.data.toList.length := by
      rcases Nat.lt_trichotomy i x.data.toList.length with h | h | h
      · rw [hL, List.getElem?_append_left h] at h2
        exact absurd (List.mem_of_getElem? h2) hx
      · exact h
      · exact absurd hat (h3 _ h)
    rw [e]
    apply list_ext
    have : ((sealB x).extract 0 i).data.toList = (sealB x).data.toList.take i := by simp
    rw [this, hL, hi2]
    simp
theorem ver_back {x y : ByteArray} (h : app x = some y) : ver y = some x := by
  obtain ⟨rfl, h1, h2, _⟩ := app_parts h
  have hf := first_seal x (no_mem h1)
  unfold ver
  rw [hf, if_pos ⟨h2, rfl⟩]
theorem ver_set {x y : ByteArray} (h : app x = some y) (k : Nat) (hk : k < y.size) (c : UInt8) (hc : y[k] ≠ c) : ver ⟨(y.data.toList.set k c).toArray⟩ = none := by
  obtain ⟨rfl, h1, h2, _⟩ := app_parts h
  unfold ver
  rw [if_neg]
  rintro ⟨_, h4⟩
  have hn := first_no ⟨((sealB x).data.toList.set k c).toArray⟩
  generalize first ⟨((sealB x).data.toList.set k c).toArray⟩ = t at *
  have e := congrArg (fun s : ByteArray => s.data.toList) h4
  simp only [sealB_list] at e
  have hX := no_mem h1
  have hT := no_mem hn
  have hk' : k < (x.data.toList ++ 35 :: Lib.itoa (ck x.data.toList)).length := by
    rw [← sealB_list]; simpa using hk
  refine Detect.detect x.data.toList t.data.toList k c hX hT hk' ?_ e.symm
  intro e2
  apply hc
  rw [← e2]
  have e3 : (sealB x)[k] = (sealB x).data.toList[k]'(by simpa using hk) := by simp; rfl
  rw [e3]
  simp only [sealB_list]
theorem xor_lt (a b : Nat) (ha : a < 256) (hb : b < 256) : bits .xor .u8 a b = ((a ^^^ b : Nat) : Int) := by
  have ha' : a % 2 ^ IntKind.u8.bits = a := Nat.mod_eq_of_lt ha
  have hb' : b % 2 ^ IntKind.u8.bits = b := Nat.mod_eq_of_lt hb
  have h : a ^^^ b < 2 ^ 8 := Nat.xor_lt_two_pow ha hb
  simp only [bits, BitVec.ofInt_natCast, BitVec.toNat_xor, BitVec.toNat_ofNat, ha', hb']
  exact wraps_u8 _ (Int.natCast_nonneg _) (by exact_mod_cast h)
/-- An exclusive or with a number that is not 0 is another byte. -/
theorem xor_byte (q : UInt8) (z : Int) (h0 : 1 ≤ z) (h1 : z ≤ 255) : ∃ c : UInt8, bits .xor .u8 (q.toNat : Int) z = (c.toNat : Int) ∧ q ≠ c := by
  obtain ⟨d, rfl⟩ := Int.eq_ofNat_of_zero_le (show 0 ≤ z by omega)
  have hq := q.toNat_lt
  have h : q.toNat ^^^ d < 2 ^ 8 := Nat.xor_lt_two_pow hq (by omega)
  refine ⟨UInt8.ofNat (q.toNat ^^^ d), ?_, ?_⟩
  · rw [xor_lt q.toNat d hq (by omega)]
    have : (UInt8.ofNat (q.toNat ^^^ d)).toNat = q.toNat ^^^ d := by
      rw [UInt8.toNat_ofNat']; exact Nat.mod_eq_of_lt h
    rw [this]
  · intro e
    have e2 : q.toNat = q.toNat ^^^ d := by
      have := congrArg UInt8.toNat e
      rw [UInt8.toNat_ofNat'] at this
      rw [Nat.mod_eq_of_lt h] at this
      exact this
    have e3 : d = 0 := by
      have : q.toNat ^^^ (q.toNat ^^^ d) = q.toNat ^^^ q.toNat := by rw [← e2]
      rw [← Nat.xor_assoc, Nat.xor_self, Nat.zero_xor] at this
      exact this
    omega
end Go.Proofs.YtlcgfohljkcngaaDoor.Back
