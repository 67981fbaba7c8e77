/- Ipr Svp Gpp, in one text. -/
import Derived.Test.YtgcjlkdahlfjlaaM23
set_option linter.unusedVariables false
set_option linter.unusedSimpArgs false
/- The functions that recover, by the program's reading and by the model's. (Written by wip/tools/genirg.py.) -/
namespace Go.Proofs.Ytgcjlkdahlfjlaa.PL

def fnOf (cs : List CI) (o : Int) : Int := match cs[o.toNat]? with
 | some c => c.f
 | none => 0
theorem recO_ok {t : List Tr} (hp : (pds t).2 = true) (hf : (fds t).2 = true) : ∀ j, j ≤ t.length → (recO t (tds t).owners j).map (fnOf (tds t).calls) = (mds (t.take j)).rcv.map Prod.snd ∧ ∀ o ∈ recO t (tds t).owners j, ∃ a : Nat, o = a ∧ a < (tds t).calls.length
 | 0, _ => ⟨rfl, fun o ho => by simp [recO] at ho⟩
 | j + 1, hj => by
  obtain ⟨ih1, ih2⟩ := recO_ok hp hf j (by omega)
  obtain ⟨e, he⟩ : ∃ e, t[j]? = some e := ⟨_, List.getElem?_eq_getElem (by omega)⟩
  have hl := owners_lens t t.length (Nat.le_refl _)
  rw [List.take_length] at hl
  obtain ⟨o, ho⟩ : ∃ o, (tds t).owners[j]? = some o := ⟨_, List.getElem?_eq_getElem (by omega)⟩
  rw [recO_succ he ho, mds_take he]
  by_cases h6 : e.1 = 6
  ·obtain ⟨a, b, S, k, hs, hbk⟩ := (mds_ord hp he).rec6 h6
   have hn : nos (mds (t.take j)) = a.no :: (b :: S).map Ent.no := by unfold nos; rw [hs]; rfl
   obtain ⟨c, hc, hcf⟩ := fun_at hp hf he (by omega) hn
   have hoa := own_top hp he (by unfold Beg; omega) hs
   rw [ho] at hoa
   obtain rfl : o = ((a.no : Nat) : Int) := by simpa using hoa
   rw [if_pos h6, md_6 hs hbk h6]
   refine ⟨?_, fun x hx => ?_⟩
   ·rw [List.map_append, List.map_append, ih1]
    show _ ++ [fnOf (tds t).calls ((a.no : Nat) : Int)] = _
    unfold fnOf
    rw [Int.toNat_natCast, hc, ← hcf]
    rfl
   ·rcases List.mem_append.1 hx with hx | hx
    ·exact ih2 x hx
    ·obtain rfl : x = _ := by simpa using hx
     exact ⟨a.no, rfl, (List.getElem?_eq_some_iff.1 hc).1⟩
  ·rw [if_neg h6, List.append_nil]
   refine ⟨?_, ih2⟩
   rw [ih1]
   have hk : (md (mds (t.take j)) e).rcv = (mds (t.take j)).rcv := by
    have hio := mds_ord hp he
    by_cases hb : Beg e.1
    ·rw [md_beg hb]
    ·obtain ⟨a, O, hs⟩ := hio.top hb
     by_cases h5 : e.1 = 5
     ·rw [md_5 hs h5]
     ·by_cases h7 : e.1 = 7
      ·rw [md_7 hs h7]
      ·by_cases h8 : e.1 = 8
       ·obtain ⟨a', O', k, hs', hak, _⟩ := hio.unw h8
        rw [md_8 hs' hak h8]
       ·by_cases h9 : e.1 = 9
        ·rw [md_9 hs h9]
        ·rw [md_else hb ⟨h5, h6, h7, h8, h9⟩]
   rw [hk]
theorem pair_ext : ∀ {a b : List (Int × Int)}, a.map Prod.fst = b.map Prod.fst → a.map Prod.snd = b.map Prod.snd → a = b
 | [], [], _, _ => rfl
 | [], _ :: _, h, _ => by simp at h
 | _ :: _, [], h, _ => by simp at h
 | (x, y) :: a, (x', y') :: b, h1, h2 => by
  simp only [List.map_cons, List.cons.injEq] at h1 h2
  obtain ⟨rfl, h1⟩ := h1
  obtain ⟨rfl, h2⟩ := h2
  rw [pair_ext h1 h2]
theorem rec_map {t : List Tr} {i : IS} (hp : (pds t).2 = true) (hf : (fds t).2 = true) (h : Sim (tds t).calls.length (mds t) i) (hr : i.rec_.map Prod.snd = recO t (tds t).owners t.length) :
  i.rec_.map (fun q => (q.1, fnOf (tds t).calls q.2)) = (mds t).rcv ∧ ∀ q ∈ i.rec_, ∃ a : Nat, q.2 = a ∧ a < (tds t).calls.length := by
 obtain ⟨h1, h2⟩ := recO_ok hp hf t.length (Nat.le_refl _)
 rw [List.take_length] at h1
 refine ⟨pair_ext ?_ ?_, fun q hq => h2 q.2 (hr ▸ List.mem_map_of_mem hq)⟩
 ·rw [List.map_map]
  exact h.rec_
 ·rw [List.map_map, ← h1, ← hr, List.map_map]
  rfl
end Go.Proofs.Ytgcjlkdahlfjlaa.PL

/- The calls that are saved, by the account. (Written by wip/tools/genisv.py.) -/
namespace Go.Proofs.Ytgcjlkdahlfjlaa.PL

def parOf (cs : List CI) (o : Int) : Int := match cs[o.toNat]? with
 | some c => c.par
 | none => 0
theorem parOf_at {cs : List CI} {a : Nat} {c : CI} (h : cs[a]? = some c) : parOf cs (a : Int) = c.par := by
 unfold parOf
 rw [Int.toNat_natCast, h]
def savL (t : List Tr) (j : Nat) : List Int := (recO t (tds t).owners j).map (parOf (tds t).calls)
theorem recO_len (t : List Tr) (os : List Int) (j : Nat) : (recO t os j).length ≤ j := by
 unfold recO
 refine Nat.le_trans (List.length_filterMap_le _ _) ?_
 rw [List.length_take]
 omega
theorem savL_len (t : List Tr) (j : Nat) : (savL t j).length ≤ j := by
 unfold savL
 rw [List.length_map]
 exact recO_len _ _ _
theorem rec_own {t : List Tr} {j : Nat} {e : Tr} (hp : (pds t).2 = true) (he : t[j]? = some e) (h6 : e.1 = 6) : ∃ (a : Nat) (c : CI), (tds t).owners[j]? = some (a : Int) ∧ (tds t).calls[a]? = some c := by
 obtain ⟨a, b, S, k, hs, hbk⟩ := (mds_ord hp he).rec6 h6
 obtain ⟨c, hc, _⟩ := par_top hp he hs
 exact ⟨a.no, c, own_top hp he (by unfold Beg; omega) hs, hc⟩
theorem savL_yes {t : List Tr} {j a : Nat} {e : Tr} {c : CI} (he : t[j]? = some e) (h6 : e.1 = 6) (ho : (tds t).owners[j]? = some (a : Int)) (hc : (tds t).calls[a]? = some c) : savL t (j + 1) = savL t j ++ [c.par] := by
 unfold savL
 rw [recO_succ he ho, if_pos h6, List.map_append, ← parOf_at hc]
 rfl
theorem savL_no {t : List Tr} {j : Nat} {e : Tr} (he : t[j]? = some e) (h6 : e.1 ≠ 6) : savL t (j + 1) = savL t j := by
 have hl := owners_lens t t.length (Nat.le_refl _)
 rw [List.take_length] at hl
 have hj := (List.getElem?_eq_some_iff.1 he).1
 obtain ⟨o, ho⟩ : ∃ o, (tds t).owners[j]? = some o := ⟨_, List.getElem?_eq_getElem (by omega)⟩
 unfold savL
 rw [recO_succ he ho, if_neg h6, List.append_nil]
end Go.Proofs.Ytgcjlkdahlfjlaa.PL

/- The gaps between panics and the calls that are saved. (Written by wip/tools/gengp.py.) -/
namespace Go.Proofs.Ytgcjlkdahlfjlaa.PL

theorem md_pan_len {s : MS} {e : Tr} (ho : InOrd s e) : s.pan.length ≤ (md s e).pan.length := by
 by_cases hb : Beg e.1
 ·rw [md_beg hb]
  exact Nat.le_refl _
 ·obtain ⟨a, O, hs⟩ := ho.top hb
  by_cases h5 : e.1 = 5
  ·rw [md_5 hs h5]
   simp
  ·by_cases h6 : e.1 = 6
   ·obtain ⟨a', b, S, k, hs', hbk⟩ := ho.rec6 h6
    rw [md_6 hs' hbk h6]
    exact Nat.le_of_eq (upd_len _ _ _).symm
   ·by_cases h7 : e.1 = 7
    ·rw [md_7 hs h7]
     exact Nat.le_refl _
    ·by_cases h8 : e.1 = 8
     ·obtain ⟨a', O', k, hs', hak, _⟩ := ho.unw h8
      rw [md_8 hs' hak h8]
      dsimp only
      split
      ·rw [upd_len, upd_len]
       exact Nat.le_refl _
      ·rw [replOf_len, upd_len]
       exact Nat.le_refl _
     ·by_cases h9 : e.1 = 9
      ·rw [md_9 hs h9]
       exact Nat.le_of_eq (fatesOf_len _ _ _).symm
      ·rw [md_else hb ⟨h5, h6, h7, h8, h9⟩]
       exact Nat.le_refl _
theorem gap_num {t : List Tr} (hp : (pds t).2 = true) (hf : (fds t).2 = true) : ∀ j, j ≤ t.length → (∀ q ∈ (mds (t.take j)).rcv, ∃ k : Nat, q.1 = k ∧ k < (mds (t.take j)).pan.length) ∧ ∀ s ∈ savL t j, ∃ o : Nat, s = o ∧ o < (tds t).calls.length
 | 0, _ => ⟨fun q hq => (by cases hq), fun s hs => (by simp [savL, recO] at hs)⟩
 | j + 1, hj => by
  obtain ⟨ih1, ih2⟩ := gap_num hp hf j (by omega)
  obtain ⟨e, he⟩ : ∃ e, t[j]? = some e := ⟨_, List.getElem?_eq_getElem (by omega)⟩
  have hio := mds_ord hp he
  have hle := md_pan_len hio
  rw [mds_take he]
  by_cases h6 : e.1 = 6
  ·obtain ⟨a, b, S, k, hs, hbk⟩ := hio.rec6 h6
   have hv := mds_val hp j (by omega)
   obtain ⟨c, hc, hcp⟩ := par_top hp he hs
   have hcp : c.par = ((b.no : Nat) : Int) := hcp
   have hoa := own_top hp he (by unfold Beg; omega) hs
   have hnx := (lk_all hp j (by omega)).next
   have hbn := hv.no b (by rw [hs]; simp)
   have hk := kept_le t (i := j) (j := t.length) (by omega)
   rw [List.take_length] at hk
   obtain ⟨c', hc', _⟩ := hk b.no _ (List.getElem?_eq_getElem (by omega))
   refine ⟨fun q hq => ?_, fun s hs' => ?_⟩
   ·rw [md_6 hs hbk h6] at hq hle ⊢
    rcases List.mem_append.1 hq with hq | hq
    ·obtain ⟨k', h1, h2⟩ := ih1 q hq
     exact ⟨k', h1, Nat.lt_of_lt_of_le h2 hle⟩
    ·obtain rfl : q = _ := by simpa using hq
     exact ⟨k, rfl, Nat.lt_of_lt_of_le (hv.on b (by rw [hs]; simp) k hbk) hle⟩
   ·rw [savL_yes he h6 hoa hc] at hs'
    rcases List.mem_append.1 hs' with hs' | hs'
    ·exact ih2 s hs'
    ·obtain rfl : s = _ := by simpa using hs'
     exact ⟨b.no, hcp, (List.getElem?_eq_some_iff.1 hc').1⟩
  ·refine ⟨fun q hq => ?_, fun s hs => ih2 s (by rw [savL_no he h6] at hs; exact hs)⟩
   have hk : (md (mds (t.take j)) e).rcv = (mds (t.take j)).rcv := by
    have h1 := (recO_ok hp hf (j + 1) hj).1
    by_cases hb : Beg e.1
    ·rw [md_beg hb]
    ·obtain ⟨a, O, hs⟩ := hio.top hb
     by_cases h5 : e.1 = 5
     ·rw [md_5 hs h5]
     ·by_cases h7 : e.1 = 7
      ·rw [md_7 hs h7]
      ·by_cases h8 : e.1 = 8
       ·obtain ⟨a', O', k, hs', hak, _⟩ := hio.unw h8
        rw [md_8 hs' hak h8]
       ·by_cases h9 : e.1 = 9
        ·rw [md_9 hs h9]
        ·rw [md_else hb ⟨h5, h6, h7, h8, h9⟩]
   rw [hk] at hq
   obtain ⟨k, h1, h2⟩ := ih1 q hq
   exact ⟨k, h1, Nat.lt_of_lt_of_le h2 hle⟩
theorem sav_rcv_len {t : List Tr} (hp : (pds t).2 = true) (hf : (fds t).2 = true) : (savL t t.length).length = (mds t).rcv.length := by
 have h := congrArg List.length (recO_ok hp hf t.length (Nat.le_refl _)).1
 rw [List.take_length, List.length_map, List.length_map] at h
 unfold savL
 rw [List.length_map]
 exact h
def gapOf (pan : List PF) (Ds : List Int) (q : Int × Int) (s : Int) : Int := (match pan[q.1.toNat]? with
 | some x => (x.depth : Int)
 | none => 0) - Ds.getD s.toNat 0
def gapL (t : List Tr) : List Int := List.zipWith (gapOf (mds t).pan (depL (tds t).calls (tds t).calls.length)) (mds t).rcv (savL t t.length)
theorem gapL_len {t : List Tr} (hp : (pds t).2 = true) (hf : (fds t).2 = true) : (gapL t).length = (mds t).rcv.length := by
 unfold gapL
 rw [List.length_zipWith, sav_rcv_len hp hf, Nat.min_self]
theorem gap_at {t : List Tr} (hp : (pds t).2 = true) (hf : (fds t).2 = true) {j : Nat} (hj : j < (mds t).rcv.length) :
  ∃ (k o : Nat) (r : Int) (x : PF) (d : Int), (mds t).rcv[j]? = some ((k : Int), r) ∧ (savL t t.length)[j]? = some (o : Int) ∧ (mds t).pan[k]? = some x ∧ (depL (tds t).calls (tds t).calls.length)[o]? = some d ∧ (depL (tds t).calls (tds t).calls.length)[x.call]? = some ((x.depth : Nat) : Int) ∧ (gapL t)[j]? = some (((x.depth : Nat) : Int) - d) := by
 obtain ⟨h1, h2⟩ := gap_num hp hf t.length (Nat.le_refl _)
 rw [List.take_length] at h1
 have hd := dep_all hp t.length (Nat.le_refl _)
 rw [List.take_length] at hd
 have hl := sav_rcv_len hp hf
 obtain ⟨⟨q, r⟩, hq⟩ : ∃ q, (mds t).rcv[j]? = some q := ⟨_, List.getElem?_eq_getElem hj⟩
 obtain ⟨s, hs⟩ : ∃ s, (savL t t.length)[j]? = some s := ⟨_, List.getElem?_eq_getElem (by omega)⟩
 obtain ⟨k, rfl, hk⟩ := h1 _ (List.mem_of_getElem? hq)
 obtain ⟨o, rfl, ho⟩ := h2 _ (List.mem_of_getElem? hs)
 obtain ⟨x, hx⟩ : ∃ x, (mds t).pan[k]? = some x := ⟨_, List.getElem?_eq_getElem hk⟩
 have hdl := depL_len (tds t).calls (tds t).calls.length (Nat.le_refl _)
 obtain ⟨d, hdd⟩ : ∃ d, (depL (tds t).calls (tds t).calls.length)[o]? = some d := ⟨_, List.getElem?_eq_getElem (by omega)⟩
 refine ⟨k, o, r, x, d, hq, hs, hx, hdd, hd x (List.mem_of_getElem? hx), ?_⟩
 unfold gapL
 rw [List.getElem?_zipWith, hq, hs]
 show some (gapOf _ _ ((k : Int), r) (o : Int)) = _
 unfold gapOf
 dsimp only
 rw [Int.toNat_natCast, Int.toNat_natCast, hx, List.getD_eq_getElem?_getD, hdd]
 rfl
end Go.Proofs.Ytgcjlkdahlfjlaa.PL
