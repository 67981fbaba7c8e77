import Derived.Test.YthejnpignlhgiaaPArgP
import Derived.Test.YthejnpignlhgiaaM12
import Derived.Test.YthejnpignlhgiaaStS
set_option linter.all false
namespace Go.Proofs.Ythejnpignlhgiaa.Frp
open PL AskP Srun Swhole Sout RunF StS
def fromR (p : Pg) (f arg fuel s : Int) : Out × Int × Bool := if asks p f arg fuel = true ∧ isNum s = true then (told (frm p f arg fuel s), (frm p f arg fuel s).1.shared, true) else ({ kind := 0, value := 0, trace := [], spent := 0 }, 0, false)
theorem fromR_yes {p : Pg} {f arg fuel s : Int} (h : asks p f arg fuel = true) (hs : isNum s = true) : fromR p f arg fuel s = (told (frm p f arg fuel s), (frm p f arg fuel s).1.shared, true) := if_pos ⟨h, hs⟩
theorem fromR_no {p : Pg} {f arg fuel s : Int} (h : ¬ (asks p f arg fuel = true ∧ isNum s = true)) : fromR p f arg fuel s = ({ kind := 0, value := 0, trace := [], spent := 0 }, 0, false) := if_neg h
theorem fromR_len (p : Pg) (f arg fuel s : Int) : (fromR p f arg fuel s).1.trace.length ≤ 100000 := by
 unfold fromR
 split
 ·rename_i h
  exact Nat.le_trans (frm_len h.1 (isNum_iff h.2)) (by decide)
 ·exact Nat.zero_le _
def codeO (o : Out) : Int := if o.kind = 1 then o.value % 256 else if o.kind = 2 then 2 else if o.kind = 3 then 0 else 124
theorem codeO_rng (o : Out) : 0 ≤ codeO o ∧ codeO o ≤ 255 := by
 unfold codeO
 split
 ·omega
 ·split
  ·omega
  ·split <;> omega
def codeR (p : Pg) (f arg fuel : Int) : Int × Bool := if (runR p f arg fuel).2 = true then (codeO (runR p f arg fuel).1, true) else (0, false)
def exits (t : List Tr) : List Int := (t.filter (fun e => e.1 == 9)).map (fun e => e.2.1)
theorem exits_take {t : List Tr} {j : Nat} {e : Tr} (h : t[j]? = some e) : exits (t.take (j + 1)) = if e.1 = 9 then exits (t.take j) ++ [e.2.1] else exits (t.take j) := by
 rw [List.take_add_one, h]
 unfold exits
 rw [Option.toList_some, List.filter_append, List.map_append]
 split
 ·rename_i h4
  simp [h4]
 ·rename_i h4
  simp [h4]
theorem exits_len (t : List Tr) : (exits t).length ≤ t.length := by
 unfold exits
 rw [List.length_map]
 exact List.length_filter_le _ _
def pathR (p : Pg) (f arg fuel : Int) : List Int × Bool := (exits (runR p f arg fuel).1.trace, (runR p f arg fuel).2)
theorem pathR_len (p : Pg) (f arg fuel : Int) : (pathR p f arg fuel).1.length ≤ 100000 := Nat.le_trans (exits_len _) (runR_len p f arg fuel)
def eArgs (p : Pg) (f low fuel : Int) : Nat → List Int
 | 0 => []
 | q + 1 => if (runR p f (low + q) fuel).1.kind = 3 then eArgs p f low fuel q ++ [low + q] else eArgs p f low fuel q
theorem eArgs_yes {p : Pg} {f low fuel : Int} {q : Nat} (h : (runR p f (low + q) fuel).1.kind = 3) : eArgs p f low fuel (q + 1) = eArgs p f low fuel q ++ [low + q] := by rw [eArgs, if_pos h]
theorem eArgs_no {p : Pg} {f low fuel : Int} {q : Nat} (h : (runR p f (low + q) fuel).1.kind ≠ 3) : eArgs p f low fuel (q + 1) = eArgs p f low fuel q := by rw [eArgs, if_neg h]
theorem eArgs_len (p : Pg) (f low fuel : Int) : ∀ q, (eArgs p f low fuel q).length ≤ q
 | 0 => Nat.le_refl _
 | q + 1 => by
  have := eArgs_len p f low fuel q
  rw [eArgs]
  split
  ·rw [List.length_append, List.length_singleton]; omega
  ·omega
def eargR (p : Pg) (f low high fuel : Int) : List Int × Bool := if PArgP.rangeOk p f low high fuel = true then (eArgs p f low fuel (high - low + 1).toNat, true) else ([], false)
theorem eargR_len (p : Pg) (f low high fuel : Int) : (eargR p f low high fuel).1.length ≤ 100000 := by
 unfold eargR
 split
 ·rename_i h
  obtain ⟨_, h1, h2, h3, h4⟩ := PArgP.range_num h
  exact Nat.le_trans (eArgs_len _ _ _ _ _) (by omega)
 ·exact Nat.zero_le _
end Go.Proofs.Ythejnpignlhgiaa.Frp
-- squeezed
