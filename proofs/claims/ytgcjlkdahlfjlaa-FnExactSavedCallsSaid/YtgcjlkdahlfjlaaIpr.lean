/- The functions that recover, by the program's reading and by the model's. (Written by wip/tools/genirg.py.) -/
import Derived.Test.YtgcjlkdahlfjlaaM23
namespace Go.Proofs.Ytgcjlkdahlfjlaa.PL
set_option linter.unusedVariables false
set_option linter.unusedSimpArgs false

def fnOf (cs : List CI) (o : Int) : Int := match cs[o.toNat]? with
 | some c => c.f
 | none => 0
theorem recO_ok {t : List Tr} (hp : (pds t).2 = true) (hf : (fds t).2 = true) : ∀ j, j ≤ t.length → (recO t (tds t).owners j).map (fnOf (tds t).calls) = (mds (t.take j)).rcv.map Prod.snd ∧ ∀ o ∈ recO t (tds t).owners j, ∃ a : Nat, o = a ∧ a < (tds t).calls.length
 | 0, _ => ⟨rfl, fun o ho => by simp [recO] at ho⟩
 | j + 1, hj => by
  obtain ⟨ih1, ih2⟩ := recO_ok hp hf j (by omega)
  obtain ⟨e, he⟩ : ∃ e, t[j]? = some e := ⟨_, List.getElem?_eq_getElem (by omega)⟩
  have hl := owners_lens t t.length (Nat.le_refl _)
  rw [List.take_length] at hl
  obtain ⟨o, ho⟩ : ∃ o, (tds t).owners[j]? = some o := ⟨_, List.getElem?_eq_getElem (by omega)⟩
  rw [recO_succ he ho, mds_take he]
  by_cases h6 : e.1 = 6
  ·obtain ⟨a, b, S, k, hs, hbk⟩ := (mds_ord hp he).rec6 h6
   have hn : nos (mds (t.take j)) = a.no :: (b :: S).map Ent.no := by unfold nos; rw [hs]; rfl
   obtain ⟨c, hc, hcf⟩ := fun_at hp hf he (by omega) hn
   have hoa := own_top hp he (by unfold Beg; omega) hs
   rw [ho] at hoa
   obtain rfl : o = ((a.no : Nat) : Int) := by simpa using hoa
   rw [if_pos h6, md_6 hs hbk h6]
   refine ⟨?_, fun x hx => ?_⟩
   ·rw [List.map_append, List.map_append, ih1]
    show _ ++ [fnOf (tds t).calls ((a.no : Nat) : Int)] = _
    unfold fnOf
    rw [Int.toNat_natCast, hc, ← hcf]
    rfl
   ·rcases List.mem_append.1 hx with hx | hx
    ·exact ih2 x hx
    ·obtain rfl : x = _ := by simpa using hx
     exact ⟨a.no, rfl, (List.getElem?_eq_some_iff.1 hc).1⟩
  ·rw [if_neg h6, List.append_nil]
   refine ⟨?_, ih2⟩
   rw [ih1]
   have hk : (md (mds (t.take j)) e).rcv = (mds (t.take j)).rcv := by
    have hio := mds_ord hp he
    by_cases hb : Beg e.1
    ·rw [md_beg hb]
    ·obtain ⟨a, O, hs⟩ := hio.top hb
     by_cases h5 : e.1 = 5
     ·rw [md_5 hs h5]
     ·by_cases h7 : e.1 = 7
      ·rw [md_7 hs h7]
      ·by_cases h8 : e.1 = 8
       ·obtain ⟨a', O', k, hs', hak, _⟩ := hio.unw h8
        rw [md_8 hs' hak h8]
       ·by_cases h9 : e.1 = 9
        ·rw [md_9 hs h9]
        ·rw [md_else hb ⟨h5, h6, h7, h8, h9⟩]
   rw [hk]
theorem pair_ext : ∀ {a b : List (Int × Int)}, a.map Prod.fst = b.map Prod.fst → a.map Prod.snd = b.map Prod.snd → a = b
 | [], [], _, _ => rfl
 | [], _ :: _, h, _ => by simp at h
 | _ :: _, [], h, _ => by simp at h
 | (x, y) :: a, (x', y') :: b, h1, h2 => by
  simp only [List.map_cons, List.cons.injEq] at h1 h2
  obtain ⟨rfl, h1⟩ := h1
  obtain ⟨rfl, h2⟩ := h2
  rw [pair_ext h1 h2]
/-- What the program tells of the recoveries. -/
theorem rec_map {t : List Tr} {i : IS} (hp : (pds t).2 = true) (hf : (fds t).2 = true) (h : Sim (tds t).calls.length (mds t) i) (hr : i.rec_.map Prod.snd = recO t (tds t).owners t.length) :
  i.rec_.map (fun q => (q.1, fnOf (tds t).calls q.2)) = (mds t).rcv ∧ ∀ q ∈ i.rec_, ∃ a : Nat, q.2 = a ∧ a < (tds t).calls.length := by
 obtain ⟨h1, h2⟩ := recO_ok hp hf t.length (Nat.le_refl _)
 rw [List.take_length] at h1
 refine ⟨pair_ext ?_ ?_, fun q hq => h2 q.2 (hr ▸ List.mem_map_of_mem hq)⟩
 ·rw [List.map_map]
  exact h.rec_
 ·rw [List.map_map, ← h1, ← hr, List.map_map]
  rfl
end Go.Proofs.Ytgcjlkdahlfjlaa.PL
-- squeezed
