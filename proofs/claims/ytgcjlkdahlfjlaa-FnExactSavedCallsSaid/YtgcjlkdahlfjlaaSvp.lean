/- The calls that are saved, by the account. (Written by wip/tools/genisv.py.) -/
import Derived.Test.YtgcjlkdahlfjlaaIpr
namespace Go.Proofs.Ytgcjlkdahlfjlaa.PL
set_option linter.unusedVariables false
set_option linter.unusedSimpArgs false

def parOf (cs : List CI) (o : Int) : Int := match cs[o.toNat]? with
 | some c => c.par
 | none => 0
theorem parOf_at {cs : List CI} {a : Nat} {c : CI} (h : cs[a]? = some c) : parOf cs (a : Int) = c.par := by
 unfold parOf
 rw [Int.toNat_natCast, h]
def savL (t : List Tr) (j : Nat) : List Int := (recO t (tds t).owners j).map (parOf (tds t).calls)
theorem recO_len (t : List Tr) (os : List Int) (j : Nat) : (recO t os j).length ≤ j := by
 unfold recO
 refine Nat.le_trans (List.length_filterMap_le _ _) ?_
 rw [List.length_take]
 omega
theorem savL_len (t : List Tr) (j : Nat) : (savL t j).length ≤ j := by
 unfold savL
 rw [List.length_map]
 exact recO_len _ _ _
theorem rec_own {t : List Tr} {j : Nat} {e : Tr} (hp : (pds t).2 = true) (he : t[j]? = some e) (h6 : e.1 = 6) : ∃ (a : Nat) (c : CI), (tds t).owners[j]? = some (a : Int) ∧ (tds t).calls[a]? = some c := by
 obtain ⟨a, b, S, k, hs, hbk⟩ := (mds_ord hp he).rec6 h6
 obtain ⟨c, hc, _⟩ := par_top hp he hs
 exact ⟨a.no, c, own_top hp he (by unfold Beg; omega) hs, hc⟩
theorem savL_yes {t : List Tr} {j a : Nat} {e : Tr} {c : CI} (he : t[j]? = some e) (h6 : e.1 = 6) (ho : (tds t).owners[j]? = some (a : Int)) (hc : (tds t).calls[a]? = some c) : savL t (j + 1) = savL t j ++ [c.par] := by
 unfold savL
 rw [recO_succ he ho, if_pos h6, List.map_append, ← parOf_at hc]
 rfl
theorem savL_no {t : List Tr} {j : Nat} {e : Tr} (he : t[j]? = some e) (h6 : e.1 ≠ 6) : savL t (j + 1) = savL t j := by
 have hl := owners_lens t t.length (Nat.le_refl _)
 rw [List.take_length] at hl
 have hj := (List.getElem?_eq_some_iff.1 he).1
 obtain ⟨o, ho⟩ : ∃ o, (tds t).owners[j]? = some o := ⟨_, List.getElem?_eq_getElem (by omega)⟩
 unfold savL
 rw [recO_succ he ho, if_neg h6, List.append_nil]
end Go.Proofs.Ytgcjlkdahlfjlaa.PL
-- squeezed
