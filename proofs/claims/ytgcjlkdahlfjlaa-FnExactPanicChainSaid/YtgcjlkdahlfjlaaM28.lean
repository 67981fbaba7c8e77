/- Pie Pif Pig Pih, in one text. -/
import Derived.Test.YtgcjlkdahlfjlaaM20
import Derived.Test.YtgcjlkdahlfjlaaM23
/- Panics that are on further out are elder; what a panic has replaced is elder than it. -/
namespace Go.Proofs.Ytgcjlkdahlfjlaa.PL
set_option linter.unusedVariables false
set_option linter.unusedSimpArgs false

def Elder (a b : Ent) : Prop := ∀ k q, a.on = some k → b.on = some q → q < k
structure Old (s : MS) : Prop where
 stk : s.stk.Pairwise Elder
 bef : ∀ k x, s.pan[k]? = some x → x.bef = -1 ∨ ∃ q : Nat, q < k ∧ x.bef = (q : Int)
theorem bef_upd {pan : List PF} {m : Nat} {g : PF → PF} (h : ∀ k x, pan[k]? = some x → x.bef = -1 ∨ ∃ q : Nat, q < k ∧ x.bef = (q : Int)) (hg : ∀ x, (g x).bef = x.bef) : ∀ k x, (upd pan m g)[k]? = some x → x.bef = -1 ∨ ∃ q : Nat, q < k ∧ x.bef = (q : Int) := by
 intro k x hx
 have hk : k < pan.length := by
  have := (List.getElem?_eq_some_iff.1 hx).1
  rwa [upd_len] at this
 rw [upd_at (List.getElem?_eq_getElem hk)] at hx
 injection hx with hx
 subst hx
 have h1 := h k _ (List.getElem?_eq_getElem hk)
 split
 ·rw [hg]; exact h1
 ·exact h1
theorem bef_set {pan : List PF} {m q : Nat} (h : ∀ k x, pan[k]? = some x → x.bef = -1 ∨ ∃ q : Nat, q < k ∧ x.bef = (q : Int)) (hq : q < m) : ∀ k x, (upd pan m (fun y => setBef y q))[k]? = some x → x.bef = -1 ∨ ∃ q : Nat, q < k ∧ x.bef = (q : Int) := by
 intro k x hx
 have hk : k < pan.length := by
  have := (List.getElem?_eq_some_iff.1 hx).1
  rwa [upd_len] at this
 rw [upd_at (List.getElem?_eq_getElem hk)] at hx
 injection hx with hx
 subst hx
 split
 ·rename_i e
  subst e
  exact .inr ⟨q, hq, rfl⟩
 ·exact h k _ (List.getElem?_eq_getElem hk)
theorem elder_put {O : List Ent} {a : Ent} {x : Option Nat} (h : (a :: O).Pairwise Elder) (hx : ∀ k, x = some k → a.on = some k) : (putE O x).Pairwise Elder := by
 cases O with
 | nil => exact List.Pairwise.nil
 | cons b S =>
  obtain ⟨h1, h2⟩ := List.pairwise_cons.1 h
  obtain ⟨h3, h4⟩ := List.pairwise_cons.1 h2
  refine List.pairwise_cons.2 ⟨fun c hc k q hk hq => ?_, h4⟩
  exact h1 c (List.mem_cons_of_mem _ hc) k q (hx k hk) hq
theorem old_md {s : MS} {e : Tr} (h : Old s) (ho : InOrd s e) (hv : Val s) : Old (md s e) := by
 obtain ⟨hs1, hb1⟩ := h
 by_cases hb : e.1 = 1 ∨ e.1 = 3
 ·rw [md_beg hb]
  exact ⟨List.pairwise_cons.2 ⟨fun c _ k q hk _ => (by cases hk), hs1⟩, hb1⟩
 ·by_cases h5 : e.1 = 5
  ·obtain ⟨a, O, hs⟩ := ho.top hb
   rw [md_5 hs h5]
   rw [hs] at hs1
   refine ⟨List.pairwise_cons.2 ⟨fun c hc k q hk hq => ?_, (List.pairwise_cons.1 hs1).2⟩, fun k x hx => ?_⟩
   ·obtain rfl : s.pan.length = k := by simpa using hk
    exact hv.on c (by rw [hs]; exact List.mem_cons_of_mem _ hc) q hq
   ·dsimp only at hx
    by_cases hk : k < s.pan.length
    ·rw [List.getElem?_append_left hk] at hx
     exact hb1 k x hx
    ·rw [List.getElem?_append_right (by omega)] at hx
     have hm := List.mem_of_getElem? hx
     obtain rfl := List.mem_singleton.1 hm
     exact .inl rfl
  ·by_cases h6 : e.1 = 6
   ·obtain ⟨a, b, S, k, hs, hb'⟩ := ho.rec6 h6
    rw [md_6 hs hb' h6]
    rw [hs] at hs1
    obtain ⟨p1, p2⟩ := List.pairwise_cons.1 hs1
    obtain ⟨p3, p4⟩ := List.pairwise_cons.1 p2
    refine ⟨List.pairwise_cons.2 ⟨fun c hc x q hx hq => ?_, List.pairwise_cons.2 ⟨fun c hc x q hx hq => (by cases hx), p4⟩⟩, bef_upd (g := fun x => setFate x 1) hb1 (fun _ => rfl)⟩
    rcases List.mem_cons.1 hc with rfl | hc
    ·cases hq
    ·exact p1 c (List.mem_cons_of_mem _ hc) x q hx hq
   ·by_cases h7 : e.1 = 7
    ·obtain ⟨a, O, hs⟩ := ho.top hb
     rw [md_7 hs h7]
     rw [hs] at hs1
     exact ⟨(List.pairwise_cons.1 hs1).2, hb1⟩
    ·by_cases h8 : e.1 = 8
     ·obtain ⟨a, O, k, hs, ha, _⟩ := ho.unw h8
      rw [md_8 hs ha h8]
      rw [hs] at hs1
      have h1 := bef_upd (m := k) (g := fun x => addBy x e.2.1) hb1 (fun _ => rfl)
      refine ⟨elder_put hs1 (fun x hx => by rw [ha]; exact hx), ?_⟩
      dsimp only
      split
      ·exact bef_upd (g := fun x => setFate x 3) h1 (fun _ => rfl)
      ·cases hq : onE O with
       | none => exact h1
       | some q =>
        have hqk : q < k := by
         cases O with
         | nil => cases hq
         | cons b S => exact (List.pairwise_cons.1 hs1).1 b List.mem_cons_self k q ha hq
        exact bef_set (bef_upd (g := fun x => setRep x k) (bef_upd (g := fun x => setFate x 2) h1 (fun _ => rfl)) (fun _ => rfl)) hqk
     ·by_cases h9 : e.1 = 9
      ·obtain ⟨a, O, hs, _⟩ := ho.exi h9
       rw [md_9 hs h9]
       rw [hs] at hs1
       refine ⟨elder_put hs1 (fun x hx => by cases hx), ?_⟩
       cases hq : onE O with
       | none => exact hb1
       | some q => exact bef_upd (g := fun x => setFate x 4) hb1 (fun _ => rfl)
      ·rw [md_else hb ⟨h5, h6, h7, h8, h9⟩]
       exact ⟨hs1, hb1⟩
theorem old_all {t : List Tr} (h : (pds t).2 = true) : ∀ j, j ≤ t.length → Old (mds (t.take j))
 | 0, _ => ⟨List.Pairwise.nil, fun k x hx => (by cases hx)⟩
 | j + 1, hj => by
  obtain ⟨e, he⟩ : ∃ e, t[j]? = some e := ⟨_, List.getElem?_eq_getElem (by omega)⟩
  rw [mds_take he]
  exact old_md (old_all h j (by omega)) (mds_ord h he) (mds_val h j (by omega))
/-- The chain of a panic: it, what it has replaced, and so on. -/
def chainOf (pan : List PF) : Nat → Int → List Int
 | 0, _ => []
 | n + 1, k => if k < 0 then [] else match pan[k.toNat]? with
  | some x => chainOf pan n x.bef ++ [x.v]
  | none => []
end Go.Proofs.Ytgcjlkdahlfjlaa.PL

/- The panic that arrives: at the last event, and it alone. -/
namespace Go.Proofs.Ytgcjlkdahlfjlaa.PL
set_option linter.unusedVariables false
set_option linter.unusedSimpArgs false

theorem stk_ods {t : List Tr} (h : (pds t).2 = true) : ∀ j, j ≤ t.length → (((mds (t.take j)).stk.length : Nat) : Int) = (ods (t.take j)).1
 | 0, _ => rfl
 | j + 1, hj => by
  obtain ⟨e, he⟩ : ∃ e, t[j]? = some e := ⟨_, List.getElem?_eq_getElem (by omega)⟩
  have ih := stk_ods h j (by omega)
  have ho := mds_ord h he
  have hl : ∀ s : MS, s.stk.length = (nos s).length := fun s => by unfold nos; rw [List.length_map]
  rw [mds_take he, ods_take' he]
  rw [hl] at ih ⊢
  by_cases hb : Beg e.1
  ·rw [od_beg hb, (nos_beg hb).1, ← ih]
   simp
  ·by_cases hf : Fin e.1
   ·obtain ⟨a, O, h1, h2, _⟩ := nos_fin hf ho
    rw [od_fin hf, h2, ← ih, h1]
    simp
   ·rw [od_else hb hf, (nos_else hb hf ho).1, ← ih]
def NoArr (pan : List PF) : Prop := ∀ x ∈ pan, x.fate ≠ 3
theorem fatesOf_mem' {pan : List PF} {q : Option Nat} (h : NoArr pan) : NoArr (fatesOf pan q 4) := by
 cases q with
 | none => exact h
 | some q => exact upd_mem (P := fun x => x.fate ≠ 3) h (fun x hx => by show (4 : Int) ≠ 3; omega)
theorem noarr_md {s : MS} {e : Tr} (h : NoArr s.pan) (ho : InOrd s e) (hne : ¬ (e.1 = 8 ∧ (md s e).stk = [])) : NoArr (md s e).pan := by
 by_cases hb : e.1 = 1 ∨ e.1 = 3
 ·rw [md_beg hb]; exact h
 ·by_cases h5 : e.1 = 5
  ·obtain ⟨a, O, hs⟩ := ho.top hb
   rw [md_5 hs h5]
   intro x hx
   rcases List.mem_append.1 hx with hx | hx
   ·exact h x hx
   ·obtain rfl := List.mem_singleton.1 hx
    show (0 : Int) ≠ 3
    omega
  ·by_cases h6 : e.1 = 6
   ·obtain ⟨a, b, S, k, hs, hb'⟩ := ho.rec6 h6
    rw [md_6 hs hb' h6]
    exact upd_mem (P := fun x => x.fate ≠ 3) h (fun x hx => by show (1 : Int) ≠ 3; omega)
   ·by_cases h7 : e.1 = 7
    ·obtain ⟨a, O, hs⟩ := ho.top hb
     rw [md_7 hs h7]; exact h
    ·by_cases h8 : e.1 = 8
     ·obtain ⟨a, O, k, hs, ha, _⟩ := ho.unw h8
      rw [md_8 hs ha h8] at hne ⊢
      have h1 : NoArr (upd s.pan k (fun x => addBy x e.2.1)) := upd_mem (P := fun x => x.fate ≠ 3) h (fun x hx => hx)
      cases O with
      | nil => exact absurd ⟨h8, rfl⟩ hne
      | cons b S =>
       dsimp only
       rw [if_neg (List.cons_ne_nil _ _)]
       cases hq : onE (b :: S) with
       | none => exact h1
       | some q => exact upd_mem (P := fun x => x.fate ≠ 3) (upd_mem (P := fun x => x.fate ≠ 3) (upd_mem (P := fun x => x.fate ≠ 3) h1 (fun x hx => by show (2 : Int) ≠ 3; omega)) (fun x hx => hx)) (fun x hx => hx)
     ·by_cases h9 : e.1 = 9
      ·obtain ⟨a, O, hs, _⟩ := ho.exi h9
       rw [md_9 hs h9]
       exact fatesOf_mem' h
      ·rw [md_else hb ⟨h5, h6, h7, h8, h9⟩]; exact h
theorem noarr_all {t : List Tr} (hw : Whole t) (h : (pds t).2 = true) : ∀ j, j < t.length → NoArr (mds (t.take j)).pan
 | 0, _ => fun x hx => by cases hx
 | j + 1, hj => by
  obtain ⟨e, he⟩ : ∃ e, t[j]? = some e := ⟨_, List.getElem?_eq_getElem (by omega)⟩
  have h1 := stk_ods h (j + 1) (by omega)
  have h2 := hw.pos (j + 1) (by omega) hj
  rw [mds_take he] at h1 ⊢
  refine noarr_md (noarr_all hw h j (by omega)) (mds_ord h he) (fun hc => ?_)
  rw [hc.2] at h1
  simp at h1
  omega
/-- At the end exactly one panic has arrived if the last event is an unwinding behind which no call is open; else none has. -/
theorem arr_last {t : List Tr} (hw : Whole t) (h : (pds t).2 = true) {m : Nat} {e : Tr} (he : t[m]? = some e) (hm : t.length = m + 1) :
  ((e.1 = 8 ∧ (mds t).stk = []) ∧ ∃ k, k < (mds t).pan.length ∧ ∀ i x, (mds t).pan[i]? = some x → (x.fate = 3 ↔ i = k)) ∨ (¬ (e.1 = 8 ∧ (mds t).stk = []) ∧ NoArr (mds t).pan) := by
 have ht : mds t = md (mds (t.take m)) e := by
  have := mds_take he
  rwa [← hm, List.take_length] at this
 have hn := noarr_all hw h m (by omega)
 have ho := mds_ord h he
 by_cases hc : e.1 = 8 ∧ (mds t).stk = []
 ·refine .inl ⟨hc, ?_⟩
  obtain ⟨h8, hs0⟩ := hc
  rw [ht] at hs0 ⊢
  obtain ⟨a, O, k, hs, ha, _⟩ := ho.unw h8
  have hv := (mds_val h m (by omega)).on a (by rw [hs]; exact List.mem_cons_self) k ha
  rw [md_8 hs ha h8] at hs0 ⊢
  cases O with
  | cons b S => cases hs0
  | nil =>
   dsimp only
   rw [if_pos rfl]
   have h1 : NoArr (upd (mds (t.take m)).pan k (fun x => addBy x e.2.1)) := upd_mem (P := fun x => x.fate ≠ 3) hn (fun x hx => hx)
   have hl : (upd (mds (t.take m)).pan k (fun x => addBy x e.2.1)).length = (mds (t.take m)).pan.length := upd_len _ _ _
   generalize upd (mds (t.take m)).pan k (fun x => addBy x e.2.1) = pan1 at *
   refine ⟨k, by rw [upd_len, hl]; exact hv, fun i x hx => ?_⟩
   have hi : i < pan1.length := by
    have := (List.getElem?_eq_some_iff.1 hx).1
    rwa [upd_len] at this
   rw [upd_at (List.getElem?_eq_getElem hi)] at hx
   injection hx with hx
   subst hx
   by_cases hik : k = i
   ·rw [if_pos hik]
    exact ⟨fun _ => hik.symm, fun _ => rfl⟩
   ·rw [if_neg hik]
    exact ⟨fun hf => absurd hf (h1 _ (List.getElem_mem _)), fun hf => absurd hf.symm hik⟩
 ·refine .inr ⟨hc, ?_⟩
  rw [ht] at hc ⊢
  exact noarr_md hn ho hc
end Go.Proofs.Ytgcjlkdahlfjlaa.PL

/- A run ends by a panic exactly if its last event is an unwinding behind which no call is open. -/
namespace Go.Proofs.Ytgcjlkdahlfjlaa.PL
set_option linter.unusedVariables false
set_option linter.unusedSimpArgs false

theorem whole_end (p : Pg) (fuel f arg : Int) : ∃ m e, (whole p fuel f arg).1.trace[m]? = some e ∧ (whole p fuel f arg).1.trace.length = m + 1 ∧ ((told (whole p fuel f arg)).kind = 2 ↔ e.1 = 8 ∧ (ods (whole p fuel f arg).1.trace).1 ≤ 0) := by
 have hg : JGood (0 + 1 + 1) (call p fuel 7) := call_J 7 _
 have hb := begin_at (o := 0) (m := start) (c := newFrame f 1 arg) (Int.le_refl _) rfl (fun j h0 hj => absurd hj (by show ¬ j ≤ 0; omega)) rfl
 have g1 := body_at (o := 0 + 1) (inner := call p fuel 7) (b := p.getD (newFrame f 1 arg).f.toNat []) (fuel := fuel) hg (by omega) (fuel.toNat + 1) _ _ 0 rfl hb
 have hw : whole p fuel f arg = afterB (call p fuel 7) (body (call p fuel 7) (p.getD (newFrame f 1 arg).f.toNat []) fuel (fuel.toNat + 1) (begin_ start (newFrame f 1 arg)) { newFrame f 1 arg with kind := 1 } 0) := rfl
 rw [hw]
 clear hw
 generalize body (call p fuel 7) (p.getD (newFrame f 1 arg).f.toNat []) fuel (fuel.toNat + 1) (begin_ start (newFrame f 1 arg)) { newFrame f 1 arg with kind := 1 } 0 = r at *
 have len : ∀ {m : M}, (∃ o', 1 ≤ o' ∧ J m o') → 1 ≤ m.trace.length := fun {m} ⟨o, h0, h⟩ => by
  have := h.eq
  cases hm : m.trace with
  | nil => rw [hm] at this; simp [ods] at this; omega
  | cons a l => simp
 have spt : ∀ (q : M × Fr), q.1.spent = true → (∃ o', 1 ≤ o' ∧ J q.1 o') → ∃ m e, q.1.trace[m]? = some e ∧ q.1.trace.length = m + 1 ∧ ((told q).kind = 2 ↔ e.1 = 8 ∧ (ods q.1.trace).1 ≤ 0) := fun q hs h => by
  have hl := len h
  obtain ⟨o, h0, hj⟩ := h
  refine ⟨q.1.trace.length - 1, _, List.getElem?_eq_getElem (by omega), by omega, fun hk => ?_, fun hk => ?_⟩
  ·unfold told at hk
   rw [if_pos hs] at hk
   exact absurd (show (4 : Int) = 2 from hk) (by decide)
  ·have h2 := hk.2
   rw [hj.eq] at h2
   dsimp only at h2
   omega
 unfold afterB
 split
 ·rename_i hsp
  exact spt r hsp g1.any
 ·rename_i hsp
  have g2 := dfr_at (o := 0 + 1) (inner := call p fuel 7) hg (by omega) r.2.defers.length r.1 r.2 (by simpa using hsp) g1
  generalize dfr (call p fuel 7) r.2.defers.length r.1 r.2 = q at *
  unfold closeC
  split
  ·rename_i hq
   exact spt q hq g2.any
  ·rename_i hq
   have hqs : q.1.spent = false := by simpa using hq
   have hj := (g2.now hqs).eq
   have key : ∀ (e : Tr), (finish q.1 q.2).trace = q.1.trace ++ [e] → Fin e.1 → (finish q.1 q.2).spent = false → (q.2.kind = 2 ↔ e.1 = 8) → ∃ m e, (finish q.1 q.2).trace[m]? = some e ∧ (finish q.1 q.2).trace.length = m + 1 ∧ ((told (finish q.1 q.2, q.2)).kind = 2 ↔ e.1 = 8 ∧ (ods (finish q.1 q.2).trace).1 ≤ 0) := fun e he hf hsp' hke => by
    refine ⟨q.1.trace.length, e, by rw [he]; simp, by rw [he]; simp, ?_⟩
    have hz : (ods (finish q.1 q.2).trace).1 ≤ 0 := by
     rw [he, ods_snoc, od_fin hf, hj]
     show (0 + 1 : Int) - 1 ≤ 0
     omega
    have hkd : (told (finish q.1 q.2, q.2)).kind = q.2.kind := by
     unfold told
     dsimp only
     rw [hsp']
     rfl
    rw [hkd, hke]
    exact ⟨fun h => ⟨h, hz⟩, fun h => h.1⟩
   have hk := g2.k
   rcases hk with k | k | k
   ·refine key (7, q.2.f, q.2.r1) (by unfold finish; rw [if_pos k]; rfl) (.inl rfl) (by unfold finish; rw [if_pos k]; exact hqs) (by rw [k]; show (1 : Int) = 2 ↔ (7 : Int) = 8; decide)
   ·refine key (8, q.2.f, q.2.value) (by unfold finish; rw [if_neg (by omega), if_pos k]; rfl) (.inr (.inl rfl)) (by unfold finish; rw [if_neg (by omega), if_pos k]; exact hqs) (by rw [k]; show (2 : Int) = 2 ↔ (8 : Int) = 8; decide)
   ·refine key (9, q.2.f, 0) (by unfold finish; rw [if_neg (by omega), if_neg (by omega), if_pos k]; rfl) (.inr (.inr rfl)) (by unfold finish; rw [if_neg (by omega), if_neg (by omega), if_pos k]; exact hqs) (by rw [k]; show (3 : Int) = 2 ↔ (9 : Int) = 8; decide)
/-- One panic has arrived, and it alone, if the run ends by a panic; else none has. -/
theorem run_arr (p : Pg) (fuel f arg : Int) : ((run p fuel f arg).kind = 2 ∧ ∃ k, k < (mds (run p fuel f arg).trace).pan.length ∧ ∀ i x, (mds (run p fuel f arg).trace).pan[i]? = some x → (x.fate = 3 ↔ i = k)) ∨ ((run p fuel f arg).kind ≠ 2 ∧ NoArr (mds (run p fuel f arg).trace).pan) := by
 obtain ⟨m, e, h1, h2, h3⟩ := whole_end p fuel f arg
 have hp := whole_p p fuel f arg
 have ho := stk_ods hp _ (Nat.le_refl _)
 rw [List.take_length] at ho
 have hs : (ods (whole p fuel f arg).1.trace).1 ≤ 0 ↔ (mds (whole p fuel f arg).1.trace).stk = [] := by
  rw [← ho, ← List.length_eq_zero_iff]
  omega
 rw [hs] at h3
 show ((told (whole p fuel f arg)).kind = 2 ∧ ∃ k, k < (mds (whole p fuel f arg).1.trace).pan.length ∧ ∀ i x, (mds (whole p fuel f arg).1.trace).pan[i]? = some x → (x.fate = 3 ↔ i = k)) ∨ ((told (whole p fuel f arg)).kind ≠ 2 ∧ NoArr (mds (whole p fuel f arg).1.trace).pan)
 rcases arr_last (whole_W p fuel f arg) hp h1 h2 with ⟨a, b⟩ | ⟨a, b⟩
 ·exact .inl ⟨h3.2 a, b⟩
 ·exact .inr ⟨fun h => a (h3.1 h), b⟩
end Go.Proofs.Ytgcjlkdahlfjlaa.PL

/- The chain of a panic: however many steps are allowed. -/
namespace Go.Proofs.Ytgcjlkdahlfjlaa.PL
set_option linter.unusedVariables false
set_option linter.unusedSimpArgs false

def BefOk (pan : List PF) : Prop := ∀ k x, pan[k]? = some x → x.bef = -1 ∨ ∃ q : Nat, q < k ∧ x.bef = (q : Int)
theorem chain_neg (pan : List PF) : ∀ n, chainOf pan n (-1) = []
 | 0 => rfl
 | n + 1 => rfl
theorem chain_step {pan : List PF} {n k : Nat} {x : PF} (hx : pan[k]? = some x) : chainOf pan (n + 1) k = chainOf pan n x.bef ++ [x.v] := by
 rw [chainOf, if_neg (by omega), Int.toNat_natCast, hx]
theorem chain_fuel {pan : List PF} (hb : BefOk pan) : ∀ (m k : Nat), k ≤ m → ∀ n n', k < n → k < n' → chainOf pan n (k : Int) = chainOf pan n' (k : Int)
 | m, k, hm, 0, _, h, _ => absurd h (Nat.not_lt_zero _)
 | m, k, hm, _ + 1, 0, _, h => absurd h (Nat.not_lt_zero _)
 | m, k, hm, n + 1, n' + 1, h, h' => by
  cases hx : pan[k]? with
  | none =>
   have hn : ∀ n, chainOf pan (n + 1) (k : Int) = [] := fun n => by rw [chainOf, if_neg (by omega), Int.toNat_natCast, hx]
   rw [hn, hn]
  | some x =>
   rw [chain_step hx, chain_step hx]
   rcases hb k x hx with e | ⟨q, hq, e⟩
   ·rw [e, chain_neg, chain_neg]
   ·rw [e]
    match m, hm with
    | 0, hm => omega
    | m + 1, hm => rw [chain_fuel hb m q (by omega) n n' (by omega) (by omega)]
def ch (pan : List PF) (k : Int) : List Int := chainOf pan (k + 1).toNat k
theorem ch_neg (pan : List PF) : ch pan (-1) = [] := rfl
theorem ch_next {pan : List PF} (hb : BefOk pan) {k : Nat} {x : PF} (hx : pan[k]? = some x) : ch pan k = ch pan x.bef ++ [x.v] := by
 unfold ch
 rw [show ((k : Int) + 1).toNat = k + 1 by omega, chain_step hx]
 rcases hb k x hx with e | ⟨q, hq, e⟩
 ·rw [e, chain_neg]
  rfl
 ·rw [e, show ((q : Int) + 1).toNat = q + 1 by omega, chain_fuel hb q q (Nat.le_refl _) k (q + 1) hq (Nat.lt_succ_self _)]
theorem ch_len {pan : List PF} (hb : BefOk pan) : ∀ (m k : Nat), k ≤ m → (ch pan k).length ≤ k + 1
 | m, k, hm => by
  cases hx : pan[k]? with
  | none =>
   unfold ch
   rw [show ((k : Int) + 1).toNat = k + 1 by omega, chainOf, if_neg (by omega), Int.toNat_natCast, hx]
   exact Nat.zero_le _
  | some x =>
   rw [ch_next hb hx, List.length_append, List.length_singleton]
   rcases hb k x hx with e | ⟨q, hq, e⟩
   ·rw [e, ch_neg]
    simp
   ·rw [e]
    match m, hm with
    | 0, hm => omega
    | m + 1, hm =>
     have := ch_len hb m q (by omega)
     omega
end Go.Proofs.Ytgcjlkdahlfjlaa.PL
