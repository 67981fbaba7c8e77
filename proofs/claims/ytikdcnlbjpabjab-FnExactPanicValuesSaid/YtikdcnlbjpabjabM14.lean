import Derived.Test.YtikdcnlbjpabjabM1
set_option linter.all false
namespace Go.Proofs.Ytikdcnlbjpabjab.PL
def od (x : Int × Int) (e : Tr) : Int × Int :=
 if e.1 = 1 ∨ e.1 = 3 then (x.1 + 1, if x.2 > x.1 + 1 then x.2 else x.1 + 1)
 else if e.1 = 7 ∨ e.1 = 8 ∨ e.1 = 9 then (x.1 - 1, x.2)
 else x
def ods (l : List Tr) : Int × Int := l.foldl od (0, 0)
theorem ods_nil : ods [] = (0, 0) := rfl
theorem ods_snoc (l : List Tr) (e : Tr) : ods (l ++ [e]) = od (ods l) e := by simp [ods]
structure J (m : M) (o : Int) : Prop where
 eq : ods m.trace = (o, m.deep)
 pos : ∀ j, 0 < j → j ≤ m.trace.length → 1 ≤ (ods (m.trace.take j)).1
theorem J.put {m m' : M} {o o' : Int} {e : Tr} (h : J m o) (ht : m'.trace = m.trace ++ [e]) (he : od (o, m.deep) e = (o', m'.deep)) (ho : 1 ≤ o') : J m' o' := by
 have h1 : ods m'.trace = (o', m'.deep) := by rw [ht, ods_snoc, h.eq, he]
 refine ⟨h1, fun j h0 hj => ?_⟩
 rcases Nat.lt_or_ge m.trace.length j with hlt | hge
 ·rw [List.take_of_length_le (by rw [ht]; simp; omega), h1]
  exact ho
 ·rw [ht, List.take_append_of_le_length hge]
  exact h.pos j h0 hge
theorem J.same {m m' : M} {o : Int} (h : J m o) (ht : m'.trace = m.trace) (hd : m'.deep = m.deep) : J m' o := ⟨by rw [ht, hd]; exact h.eq, by rw [ht]; exact h.pos⟩
def Quiet (k : Int) : Prop := k ≠ 1 ∧ k ≠ 3 ∧ k ≠ 7 ∧ k ≠ 8 ∧ k ≠ 9
theorem J.tell {m : M} {o : Int} (h : J m o) (k f v : Int) (hk : Quiet k) (ho : 1 ≤ o) : J (tell m k f v) o := by
 obtain ⟨a, b, c, d, e⟩ := hk
 exact h.put (e := (k, f, v)) rfl (by unfold od; simp [a, b, c, d, e]; rfl) ho
theorem J.simple {m : M} {o : Int} (h : J m o) (ho : 1 ≤ o) (c : Fr) (s : Tr) : J (simple m c s).1 o := by
 unfold PL.simple
 split
 ·exact h
 ·split
  ·exact h
  ·split
   ·exact h.tell _ _ _ (by unfold Quiet; decide) ho
   ·split
    ·exact h
    ·split
     ·exact h.same rfl rfl
     ·split
      ·exact h
      ·split
       ·split
        ·exact h.tell _ _ _ (by unfold Quiet; decide) ho
        ·exact h
       ·exact h
theorem simple_spent (m : M) (c : Fr) (s : Tr) : (simple m c s).1.spent = m.spent ∧ (simple m c s).2.kind = c.kind ∧ (simple m c s).2.depth = c.depth := by
 unfold simple
 repeat' split
 all_goals (first | exact ⟨rfl, rfl, rfl⟩ | exact ⟨rfl, setReg_kind _ _ _, setReg_depth _ _ _⟩ | exact ⟨rfl, (setReg_kind _ _ _).trans (setReg_kind _ _ _), (setReg_depth _ _ _).trans (setReg_depth _ _ _)⟩)
def K3 (c : Fr) : Prop := c.kind = 1 ∨ c.kind = 2 ∨ c.kind = 3
def JGood (D : Int) (inner : Call) : Prop := ∀ (m : M) (c : Fr) (o : Int), 1 ≤ o → J m o → o + 1 = D → c.depth = D → m.spent = false →
 (∃ o', 1 ≤ o' ∧ J (inner m c).1 o') ∧ ((inner m c).1.spent = false → J (inner m c).1 o)
structure At (o : Int) (m : M) (c : Fr) : Prop where
 d : c.depth = o
 k : K3 c
 any : ∃ o', 1 ≤ o' ∧ J m o'
 now : m.spent = false → J m o
theorem innerEnd_at (c i : Fr) (a : Int) (h : K3 c) : K3 (innerEnd c i a).1 ∧ (innerEnd c i a).1.depth = c.depth := by
 unfold innerEnd
 repeat' split
 ·exact ⟨h, rfl⟩
 ·exact ⟨.inr (.inl rfl), rfl⟩
 ·exact ⟨.inr (.inr rfl), rfl⟩
 ·exact ⟨h, rfl⟩
theorem mk_at {o : Int} {inner : Call} (hg : JGood (o + 1) inner) (ho : 1 ≤ o) {m : M} {c : Fr} (hs : m.spent = false) (h : At o m c) (a : Int) (s : Tr) : At o (mk inner m c a s).1 (mk inner m c a s).2.1 := by
 have hJ := h.now hs
 unfold mk
 split
 ·obtain ⟨g1, g2⟩ := hg m (newFrame s.2.1 (c.depth + 1) (reg c s.2.2)) o ho hJ rfl (by show c.depth + 1 = o + 1; rw [h.d]) hs
  obtain ⟨k1, k2⟩ := innerEnd_at c (inner m (newFrame s.2.1 (c.depth + 1) (reg c s.2.2))).2 a h.k
  exact ⟨k2.trans h.d, k1, g1, g2⟩
 ·split
  ·have := hJ.tell 2 s.2.1 (reg c s.2.2) (by unfold Quiet; decide) ho
   exact ⟨h.d, h.k, ⟨o, ho, this⟩, fun _ => this⟩
  ·split
   ·have := hJ.tell 5 c.f (reg c s.2.1) (by unfold Quiet; decide) ho
    exact ⟨h.d, .inr (.inl rfl), ⟨o, ho, this⟩, fun _ => this⟩
   ·split
    ·exact ⟨h.d, h.k, h.any, h.now⟩
    ·split
     ·exact ⟨h.d, .inr (.inr rfl), h.any, h.now⟩
     ·split
      ·exact ⟨h.d, h.k, h.any, h.now⟩
      ·obtain ⟨s1, s2, s3⟩ := simple_spent m c s
       have := hJ.simple ho c s
       exact ⟨s3.trans h.d, by unfold K3; rw [s2]; exact h.k, ⟨o, ho, this⟩, fun _ => this⟩
theorem body_at {o : Int} {inner : Call} (hg : JGood (o + 1) inner) (ho : 1 ≤ o) {b : List Tr} {fuel : Int} :
  ∀ (k : Nat) (m : M) (c : Fr) (a : Int), m.spent = false → At o m c → At o (body inner b fuel k m c a).1 (body inner b fuel k m c a).2
 | 0, m, c, a, _, h => h
 | k + 1, m, c, a, hs, h => by
  unfold body
  split
  ·split
   ·exact h
   ·split
    ·exact ⟨h.d, h.k, ⟨o, ho, (h.now hs).same rfl rfl⟩, fun _ => (h.now hs).same rfl rfl⟩
    ·have hc : At o (count m c.f a) c := ⟨h.d, h.k, ⟨o, ho, (h.now hs).same rfl rfl⟩, fun _ => (h.now hs).same rfl rfl⟩
     rename_i s _ _
     have g := mk_at hg ho (m := count m c.f a) hs hc a s
     generalize mk inner (count m c.f a) c a s = r at *
     obtain ⟨m', c', a'⟩ := r
     dsimp only at g ⊢
     split
     ·exact g
     ·rename_i hsp
      exact body_at hg ho k m' c' a' (by simpa using hsp) g
  ·exact h
theorem lastEnd_at {c i : Fr} (h : K3 c) : K3 (lastEnd c i) ∧ (lastEnd c i).depth = c.depth := by
 refine ⟨?_, rfl⟩
 unfold K3 lastEnd
 dsimp only
 repeat' split
 all_goals (first | exact .inr (.inl rfl) | exact .inr (.inr rfl) | exact .inl rfl | exact h)
theorem dfr_at {o : Int} {inner : Call} (hg : JGood (o + 1) inner) (ho : 1 ≤ o) :
  ∀ (k : Nat) (m : M) (c : Fr), m.spent = false → At o m c → At o (dfr inner k m c).1 (dfr inner k m c).2
 | 0, m, c, _, h => h
 | k + 1, m, c, hs, h => by
  unfold dfr
  split
  ·exact h
  ·rename_i d hd
   obtain ⟨g1, g2⟩ := hg m (lastFrame c d) o ho (h.now hs) rfl (by show c.depth + 1 = o + 1; rw [h.d]) hs
   generalize inner m (lastFrame c d) = r at *
   obtain ⟨m', i⟩ := r
   dsimp only at g1 g2 ⊢
   split
   ·exact ⟨h.d, h.k, g1, g2⟩
   ·rename_i hsp
    obtain ⟨k1, k2⟩ := lastEnd_at (c := dropL c) (i := i) h.k
    exact dfr_at hg ho k m' (lastEnd (dropL c) i) (by simpa using hsp) ⟨k2.trans h.d, k1, g1, g2⟩
theorem finish_od {o d : Int} {m : M} {c : Fr} (hk : K3 c) : ∃ e : Tr, (finish m c).trace = m.trace ++ [e] ∧ od (o, d) e = (o - 1, d) ∧ (finish m c).deep = m.deep ∧ (finish m c).spent = m.spent := by
 unfold finish
 rcases hk with h | h | h
 ·rw [if_pos h]
  exact ⟨_, rfl, rfl, rfl, rfl⟩
 ·rw [if_neg (by omega), if_pos h]
  exact ⟨_, rfl, rfl, rfl, rfl⟩
 ·rw [if_neg (by omega), if_neg (by omega), if_pos h]
  exact ⟨_, rfl, rfl, rfl, rfl⟩
theorem begin_od {o : Int} {m : M} {c : Fr} (h : ods m.trace = (o, m.deep)) (hd : c.depth = o + 1) : ods (begin_ m c).trace = (o + 1, (begin_ m c).deep) := by
 show ods (m.trace ++ [_]) = _
 rw [ods_snoc, h]
 have hk : ((if c.deferred = true then (3 : Int) else 1) = 1 ∨ (if c.deferred = true then (3 : Int) else 1) = 3) := by split <;> simp
 unfold od
 rw [if_pos hk]
 show (o + 1, if m.deep > o + 1 then m.deep else o + 1) = (o + 1, if m.deep > c.depth then m.deep else c.depth)
 rw [hd]
theorem begin_at {o : Int} {m : M} {c : Fr} (ho : 0 ≤ o) (h : ods m.trace = (o, m.deep)) (hp : ∀ j, 0 < j → j ≤ m.trace.length → 1 ≤ (ods (m.trace.take j)).1) (hd : c.depth = o + 1) : At (o + 1) (begin_ m c) { c with kind := 1 } := by
 have h1 := begin_od h hd
 have : J (begin_ m c) (o + 1) := by
  refine ⟨h1, fun j h0 hj => ?_⟩
  have ht : (begin_ m c).trace = m.trace ++ [((if c.deferred = true then (3 : Int) else 1), c.f, c.r0)] := rfl
  rcases Nat.lt_or_ge m.trace.length j with hlt | hge
  ·rw [List.take_of_length_le (by rw [ht]; simp; omega), h1]
   show 1 ≤ o + 1
   omega
  ·rw [ht, List.take_append_of_le_length hge]
   exact hp j h0 hge
 exact ⟨hd, .inl rfl, ⟨o + 1, by omega, this⟩, fun _ => this⟩
theorem call_J {p : Pg} {fuel : Int} : ∀ d : Nat, ∀ D : Int, JGood D (call p fuel d)
 | 0, D => fun m c o ho hJ hD hd hs => ⟨⟨o, ho, hJ.same rfl rfl⟩, fun h => by cases h⟩
 | d + 1, D => fun m c o ho hJ hD hd hs => by
  have hg : JGood (o + 1 + 1) (call p fuel d) := call_J d _
  have hb := begin_at (m := m) (c := c) (by omega) hJ.eq hJ.pos (by omega)
  have hsb : (begin_ m c).spent = false := hs
  have g1 := body_at (o := o + 1) (inner := call p fuel d) (b := p.getD c.f.toNat []) (fuel := fuel) hg (by omega) (fuel.toNat + 1) _ _ 0 hsb hb
  show (∃ o', 1 ≤ o' ∧ J (afterB (call p fuel d) (body (call p fuel d) (p.getD c.f.toNat []) fuel (fuel.toNat + 1) (begin_ m c) { c with kind := 1 } 0)).1 o') ∧
   ((afterB (call p fuel d) (body (call p fuel d) (p.getD c.f.toNat []) fuel (fuel.toNat + 1) (begin_ m c) { c with kind := 1 } 0)).1.spent = false →
    J (afterB (call p fuel d) (body (call p fuel d) (p.getD c.f.toNat []) fuel (fuel.toNat + 1) (begin_ m c) { c with kind := 1 } 0)).1 o)
  generalize body (call p fuel d) (p.getD c.f.toNat []) fuel (fuel.toNat + 1) (begin_ m c) { c with kind := 1 } 0 = r at *
  unfold afterB
  split
  ·rename_i hsp
   exact ⟨g1.any, fun h => by rw [hsp] at h; cases h⟩
  ·rename_i hsp
   have g2 := dfr_at (o := o + 1) (inner := call p fuel d) hg (by omega) r.2.defers.length r.1 r.2 (by simpa using hsp) g1
   generalize dfr (call p fuel d) r.2.defers.length r.1 r.2 = q at *
   unfold closeC
   split
   ·rename_i hsq
    exact ⟨g2.any, fun h => by rw [hsq] at h; cases h⟩
   ·rename_i hsq
    obtain ⟨e, he, hod, hdp, hsp'⟩ := finish_od (o := o + 1) (d := q.1.deep) (m := q.1) g2.k
    have : J (finish q.1 q.2) o := (g2.now (by simpa using hsq)).put he (by rw [hod, hdp]; congr 1; omega) ho
    exact ⟨⟨o, ho, this⟩, fun _ => this⟩
theorem whole_J (p : Pg) (fuel f arg : Int) : (ods (whole p fuel f arg).1.trace).2 = (whole p fuel f arg).1.deep ∧
  ∀ j, 0 < j → j < (whole p fuel f arg).1.trace.length → 1 ≤ (ods ((whole p fuel f arg).1.trace.take j)).1 := by
 have hg : JGood (0 + 1 + 1) (call p fuel 7) := call_J 7 _
 have hb := begin_at (o := 0) (m := start) (c := newFrame f 1 arg) (Int.le_refl _) rfl (fun j h0 hj => absurd hj (by show ¬ j ≤ 0; omega)) rfl
 have g1 := body_at (o := 0 + 1) (inner := call p fuel 7) (b := p.getD (newFrame f 1 arg).f.toNat []) (fuel := fuel) hg (by omega) (fuel.toNat + 1) _ _ 0 rfl hb
 have hw : whole p fuel f arg = afterB (call p fuel 7) (body (call p fuel 7) (p.getD (newFrame f 1 arg).f.toNat []) fuel (fuel.toNat + 1) (begin_ start (newFrame f 1 arg)) { newFrame f 1 arg with kind := 1 } 0) := rfl
 rw [hw]
 clear hw
 generalize body (call p fuel 7) (p.getD (newFrame f 1 arg).f.toNat []) fuel (fuel.toNat + 1) (begin_ start (newFrame f 1 arg)) { newFrame f 1 arg with kind := 1 } 0 = r at *
 have fin : ∀ {m : M}, (∃ o', 1 ≤ o' ∧ J m o') → (ods m.trace).2 = m.deep ∧ ∀ j, 0 < j → j < m.trace.length → 1 ≤ (ods (m.trace.take j)).1 :=
  fun ⟨o, _, h⟩ => ⟨by rw [h.eq], fun j h0 hj => h.pos j h0 (by omega)⟩
 unfold afterB
 split
 ·exact fin g1.any
 ·rename_i hsp
  have g2 := dfr_at (o := 0 + 1) (inner := call p fuel 7) hg (by omega) r.2.defers.length r.1 r.2 (by simpa using hsp) g1
  generalize dfr (call p fuel 7) r.2.defers.length r.1 r.2 = q at *
  unfold closeC
  split
  ·exact fin g2.any
  ·rename_i hsq
   obtain ⟨e, he, hod, hdp, hsp'⟩ := finish_od (o := 0 + 1) (d := q.1.deep) (m := q.1) g2.k
   have hj := g2.now (by simpa using hsq)
   refine ⟨?_, fun j h0 hj' => ?_⟩
   ·show (ods (finish q.1 q.2).trace).2 = (finish q.1 q.2).deep
    rw [he, ods_snoc, hj.eq, hod, hdp]
   ·change j < (finish q.1 q.2).trace.length at hj'
    show 1 ≤ (ods ((finish q.1 q.2).trace.take j)).1
    rw [he] at hj' ⊢
    simp at hj'
    rw [List.take_append_of_le_length (by omega)]
    exact hj.pos j h0 (by omega)
end Go.Proofs.Ytikdcnlbjpabjab.PL

namespace Go.Proofs.Ytikdcnlbjpabjab.PL
structure CI where
 f : Int
 par : Int
 dfr : Bool
 fin : Int
 val : Int
structure Told where
 calls : List CI
 owners : List Int
 now : Int
def endOf (k : Int) : Int := if k = 7 then 1 else if k = 8 then 2 else 3
def closeAt (l : List CI) (i : Int) (e v : Int) : List CI := match l[i.toNat]? with
 | some c => l.set i.toNat ⟨c.f, c.par, c.dfr, e, v⟩
 | none => l
def parAt (l : List CI) (i : Int) : Int := match l[i.toNat]? with
 | some c => c.par
 | none => 0
def Beg (k : Int) : Prop := k = 1 ∨ k = 3
def Fin (k : Int) : Prop := k = 7 ∨ k = 8 ∨ k = 9
instance (k : Int) : Decidable (Beg k) := by unfold Beg; infer_instance
instance (k : Int) : Decidable (Fin k) := by unfold Fin; infer_instance
def td (s : Told) (e : Tr) : Told :=
 if Beg e.1 then ⟨s.calls ++ [⟨e.2.1, s.now, e.1 == 3, 4, 0⟩], s.owners ++ [(s.calls.length : Int)], s.calls.length⟩
 else if Fin e.1 then ⟨closeAt s.calls s.now (endOf e.1) e.2.2, s.owners ++ [s.now], parAt s.calls s.now⟩
 else ⟨s.calls, s.owners ++ [s.now], s.now⟩
def tds (l : List Tr) : Told := l.foldl td ⟨[], [], -1⟩
theorem tds_nil : tds [] = ⟨[], [], -1⟩ := rfl
theorem tds_snoc (l : List Tr) (e : Tr) : tds (l ++ [e]) = td (tds l) e := by simp [tds]
theorem tds_take {l : List Tr} {j : Nat} {e : Tr} (h : l[j]? = some e) : tds (l.take (j + 1)) = td (tds (l.take j)) e := by
 rw [List.take_add_one, h]
 exact tds_snoc _ _
theorem ods_take' {l : List Tr} {j : Nat} {e : Tr} (h : l[j]? = some e) : ods (l.take (j + 1)) = od (ods (l.take j)) e := by
 rw [List.take_add_one, h]
 exact ods_snoc _ _
theorem closeAt_length (l : List CI) (i e v : Int) : (closeAt l i e v).length = l.length := by
 unfold closeAt
 split <;> simp
theorem td_owners (s : Told) (e : Tr) : (td s e).owners.length = s.owners.length + 1 := by
 unfold td
 repeat' split
 all_goals simp
theorem td_calls (s : Told) (e : Tr) : s.calls.length ≤ (td s e).calls.length ∧ (td s e).calls.length ≤ s.calls.length + 1 := by
 unfold td
 repeat' split
 ·simp
 ·rw [closeAt_length]; omega
 ·simp
def Chain (cs : List CI) : Int → Nat → Prop
 | now, 0 => now = -1
 | now, d + 1 => 0 ≤ now ∧ ∃ c, cs[now.toNat]? = some c ∧ Chain cs c.par d
def Kept (a b : List CI) : Prop := ∀ (i : Nat) (c : CI), a[i]? = some c → ∃ c', b[i]? = some c' ∧ c'.par = c.par
theorem Kept.refl (a : List CI) : Kept a a := fun _ c h => ⟨c, h, rfl⟩
theorem Kept.trans {a b c : List CI} (h : Kept a b) (k : Kept b c) : Kept a c := fun i x hx => by
 obtain ⟨y, hy, e⟩ := h i x hx
 obtain ⟨z, hz, e'⟩ := k i y hy
 exact ⟨z, hz, e'.trans e⟩
theorem kept_append (a b : List CI) : Kept a (a ++ b) := fun i c h => ⟨c, by rw [List.getElem?_append_left (List.getElem?_eq_some_iff.1 h).1]; exact h, rfl⟩
theorem kept_close (a : List CI) (i e v : Int) : Kept a (closeAt a i e v) := fun j c h => by
 unfold closeAt
 split
 ·rename_i x hx
  by_cases hj : i.toNat = j
  ·subst hj
   rw [hx] at h
   cases h
   exact ⟨_, List.getElem?_set_self (List.getElem?_eq_some_iff.1 hx).1, rfl⟩
  ·exact ⟨c, by rw [List.getElem?_set_ne hj]; exact h, rfl⟩
 ·exact ⟨c, h, rfl⟩
theorem kept_td (s : Told) (e : Tr) : Kept s.calls (td s e).calls := by
 unfold td
 repeat' split
 ·exact kept_append _ _
 ·exact kept_close _ _ _ _
 ·exact Kept.refl _
theorem kept_take (l : List Tr) (i : Nat) : ∀ d, Kept (tds (l.take i)).calls (tds (l.take (i + d))).calls
 | 0 => Kept.refl _
 | d + 1 => by
  refine (kept_take l i d).trans ?_
  cases h : l[i + d]? with
  | none => rw [List.take_of_length_le (i := i + (d + 1)) (by have := List.getElem?_eq_none_iff.1 h; omega), List.take_of_length_le (i := i + d) (by have := List.getElem?_eq_none_iff.1 h; omega)]; exact Kept.refl _
  | some e => rw [show i + (d + 1) = i + d + 1 by omega, tds_take h]; exact kept_td _ _
theorem kept_le (l : List Tr) {i j : Nat} (h : i ≤ j) : Kept (tds (l.take i)).calls (tds (l.take j)).calls := by
 have := kept_take l i (j - i)
 rwa [show i + (j - i) = j by omega] at this
theorem Chain.kept {a b : List CI} (hk : Kept a b) : ∀ {d : Nat} {now : Int}, Chain a now d → Chain b now d
 | 0, _, h => h
 | d + 1, now, ⟨h0, c, hc, h⟩ => by
  obtain ⟨c', hc', e⟩ := hk _ _ hc
  exact ⟨h0, c', hc', by rw [e]; exact h.kept hk⟩
structure Whole (t : List Tr) : Prop where
 first : 1 ≤ (ods (t.take 1)).1
 pos : ∀ j, 0 < j → j < t.length → 1 ≤ (ods (t.take j)).1
theorem Whole.beg {t : List Tr} (h : Whole t) : ∃ e, t[0]? = some e ∧ Beg e.1 := by
 have h1 := h.first
 cases t with
 | nil => simp [ods] at h1
 | cons e t =>
  refine ⟨e, rfl, ?_⟩
  simp only [List.take_succ_cons, List.take_zero, ods, List.foldl_cons, List.foldl_nil] at h1
  unfold od at h1
  unfold Beg
  split at h1
  ·assumption
  ·split at h1 <;> simp at h1
structure TInv (t : List Tr) (j : Nat) : Prop where
 nn : 0 ≤ (ods (t.take j)).1
 chain : Chain (tds (t.take j)).calls (tds (t.take j)).now (ods (t.take j)).1.toNat
 olen : (tds (t.take j)).owners.length = j
 clen : (tds (t.take j)).calls.length ≤ j
 own : ∀ (i : Nat) (o : Int), (tds (t.take j)).owners[i]? = some o → 0 ≤ o ∧ o < (tds (t.take j)).calls.length
 fins : ∀ (i : Nat) (c : CI), (tds (t.take j)).calls[i]? = some c → 1 ≤ c.fin ∧ c.fin ≤ 4 ∧ -1 ≤ c.par ∧ c.par < i
 nowlt : -1 ≤ (tds (t.take j)).now ∧ (tds (t.take j)).now < (tds (t.take j)).calls.length
theorem TInv.now {t : List Tr} {j : Nat} (h : TInv t j) (hp : 1 ≤ (ods (t.take j)).1) : 0 ≤ (tds (t.take j)).now ∧ ∃ c, (tds (t.take j)).calls[(tds (t.take j)).now.toNat]? = some c := by
 have hc := h.chain
 generalize hd : (ods (t.take j)).1.toNat = d at hc
 cases d with
 | zero => omega
 | succ d => exact ⟨hc.1, hc.2.choose, hc.2.choose_spec.1⟩
theorem beg_fin {k : Int} (h : Beg k) : ¬ Fin k := by unfold Beg at h; unfold Fin; omega
theorem od_beg {x : Int × Int} {e : Tr} (h : Beg e.1) : (od x e).1 = x.1 + 1 := by unfold od; unfold Beg at h; rw [if_pos h]
theorem od_fin {x : Int × Int} {e : Tr} (h : Fin e.1) : (od x e).1 = x.1 - 1 := by
 have hb : ¬ (e.1 = 1 ∨ e.1 = 3) := fun hb => beg_fin (k := e.1) hb h
 unfold od; unfold Fin at h; rw [if_neg hb, if_pos h]
theorem od_else {x : Int × Int} {e : Tr} (h : ¬ Beg e.1) (h' : ¬ Fin e.1) : (od x e).1 = x.1 := by unfold od; unfold Beg at h; unfold Fin at h'; rw [if_neg h, if_neg h']
theorem tinv_step {t : List Tr} {j : Nat} {e : Tr} (h : TInv t j) (he : t[j]? = some e) (hp : Beg e.1 ∨ 1 ≤ (ods (t.take j)).1) : TInv t (j + 1) := by
 have h1 := tds_take he
 have h2 := ods_take' he
 by_cases hb : Beg e.1
 ·have ho : (ods (t.take (j + 1))).1 = (ods (t.take j)).1 + 1 := by rw [h2, od_beg hb]
  obtain ⟨a1, a2, a3, a4, a5, a6, a7⟩ := h
  generalize hS : tds (t.take j) = S at *
  have hT : tds (t.take (j + 1)) = ⟨S.calls ++ [⟨e.2.1, S.now, e.1 == 3, 4, 0⟩], S.owners ++ [(S.calls.length : Int)], S.calls.length⟩ := by rw [h1]; unfold td; rw [if_pos hb]
  refine ⟨by omega, ?_, ?_, ?_, ?_, ?_, ?_⟩
  ·rw [hT, ho, show ((ods (t.take j)).1 + 1).toNat = (ods (t.take j)).1.toNat + 1 by omega]
   refine ⟨by show (0 : Int) ≤ S.calls.length; omega, ⟨e.2.1, S.now, e.1 == 3, 4, 0⟩, ?_, ?_⟩
   ·show (S.calls ++ [_])[((S.calls.length : Nat) : Int).toNat]? = _
    rw [Int.toNat_natCast]
    simp
   ·exact a2.kept (kept_append _ _)
  ·rw [hT]; show (S.owners ++ [_]).length = _; simp [a3]
  ·rw [hT]; show (S.calls ++ [_]).length ≤ _; simp; exact a4
  ·rw [hT]
   intro i o hi
   show 0 ≤ o ∧ o < ((S.calls ++ [_]).length : Nat)
   change (S.owners ++ [(S.calls.length : Int)])[i]? = some o at hi
   rw [List.length_append, List.length_singleton]
   rcases Nat.lt_or_ge i S.owners.length with hlt | hge
   ·rw [List.getElem?_append_left hlt] at hi
    have := a5 i o hi
    omega
   ·rw [List.getElem?_append_right hge] at hi
    obtain rfl : (S.calls.length : Int) = o := by
     cases hq : i - S.owners.length with
     | zero => rw [hq] at hi; simpa using hi
     | succ q => rw [hq] at hi; simp at hi
    omega
  ·rw [hT]
   intro i c hi
   change (S.calls ++ [_])[i]? = some c at hi
   rcases Nat.lt_or_ge i S.calls.length with hlt | hge
   ·rw [List.getElem?_append_left hlt] at hi
    exact a6 i c hi
   ·rw [List.getElem?_append_right hge] at hi
    cases hq : i - S.calls.length with
    | zero =>
     rw [hq] at hi
     obtain rfl : (⟨e.2.1, S.now, e.1 == 3, 4, 0⟩ : CI) = c := by simpa using hi
     dsimp only
     omega
    | succ q => rw [hq] at hi; simp at hi
  ·rw [hT]; show (-1 : Int) ≤ S.calls.length ∧ (S.calls.length : Int) < ((S.calls ++ [_]).length : Nat); rw [List.length_append, List.length_singleton]; omega
 ·have hp1 : 1 ≤ (ods (t.take j)).1 := hp.resolve_left hb
  obtain ⟨n0, cc, hcc⟩ := h.now hp1
  have nl : (tds (t.take j)).now < (tds (t.take j)).calls.length := h.nowlt.2
  by_cases hf : Fin e.1
  ·have ho : (ods (t.take (j + 1))).1 = (ods (t.take j)).1 - 1 := by rw [h2, od_fin hf]
   obtain ⟨a1, a2, a3, a4, a5, a6, a7⟩ := h
   generalize hS : tds (t.take j) = S at *
   have hT : tds (t.take (j + 1)) = ⟨closeAt S.calls S.now (endOf e.1) e.2.2, S.owners ++ [S.now], parAt S.calls S.now⟩ := by rw [h1]; unfold td; rw [if_neg hb, if_pos hf]
   have hcl : closeAt S.calls S.now (endOf e.1) e.2.2 = S.calls.set S.now.toNat ⟨cc.f, cc.par, cc.dfr, endOf e.1, e.2.2⟩ := by unfold closeAt; rw [hcc]
   have hpa : parAt S.calls S.now = cc.par := by unfold parAt; rw [hcc]
   refine ⟨by omega, ?_, ?_, ?_, ?_, ?_, ?_⟩
   ·rw [hT, ho]
    show Chain (closeAt S.calls S.now (endOf e.1) e.2.2) (parAt S.calls S.now) _
    rw [hpa]
    obtain ⟨d, hd⟩ : ∃ d : Nat, (ods (t.take j)).1.toNat = d + 1 := ⟨(ods (t.take j)).1.toNat - 1, by omega⟩
    rw [hd] at a2
    obtain ⟨_, c', hc', hch⟩ := a2
    rw [hcc] at hc'
    cases hc'
    rw [show ((ods (t.take j)).1 - 1).toNat = d by omega]
    exact hch.kept (kept_close _ _ _ _)
   ·rw [hT]; show (S.owners ++ [_]).length = _; simp [a3]
   ·rw [hT]; show (closeAt _ _ _ _).length ≤ _; rw [closeAt_length]; omega
   ·rw [hT]
    intro i o hi
    show 0 ≤ o ∧ o < ((closeAt S.calls S.now (endOf e.1) e.2.2).length : Nat)
    change (S.owners ++ [S.now])[i]? = some o at hi
    rw [closeAt_length]
    rcases Nat.lt_or_ge i S.owners.length with hlt | hge
    ·rw [List.getElem?_append_left hlt] at hi
     exact a5 i o hi
    ·rw [List.getElem?_append_right hge] at hi
     obtain rfl : S.now = o := by
      cases hq : i - S.owners.length with
      | zero => rw [hq] at hi; simpa using hi
      | succ q => rw [hq] at hi; simp at hi
     exact ⟨n0, nl⟩
   ·rw [hT]
    intro i c hi
    change (closeAt S.calls S.now (endOf e.1) e.2.2)[i]? = some c at hi
    rw [hcl] at hi
    by_cases hi' : S.now.toNat = i
    ·subst hi'
     rw [List.getElem?_set_self (List.getElem?_eq_some_iff.1 hcc).1] at hi
     obtain rfl : (⟨cc.f, cc.par, cc.dfr, endOf e.1, e.2.2⟩ : CI) = c := by simpa using hi
     have := a6 _ _ hcc
     dsimp only
     refine ⟨?_, ?_, this.2.2.1, this.2.2.2⟩ <;> (unfold endOf; split <;> (try split) <;> omega)
    ·rw [List.getElem?_set_ne hi'] at hi
     exact a6 i c hi
   ·rw [hT]
    show -1 ≤ parAt S.calls S.now ∧ parAt S.calls S.now < ((closeAt S.calls S.now (endOf e.1) e.2.2).length : Nat)
    rw [closeAt_length, hpa]
    have := a6 _ _ hcc
    omega
  ·have ho : (ods (t.take (j + 1))).1 = (ods (t.take j)).1 := by rw [h2, od_else hb hf]
   obtain ⟨a1, a2, a3, a4, a5, a6, a7⟩ := h
   generalize hS : tds (t.take j) = S at *
   have hT : tds (t.take (j + 1)) = ⟨S.calls, S.owners ++ [S.now], S.now⟩ := by rw [h1]; unfold td; rw [if_neg hb, if_neg hf]
   refine ⟨by omega, by rw [hT, ho]; exact a2, by rw [hT]; show (S.owners ++ [_]).length = _; simp [a3], by rw [hT]; show S.calls.length ≤ _; omega, ?_, by rw [hT]; exact a6, by rw [hT]; exact a7⟩
   rw [hT]
   intro i o hi
   show 0 ≤ o ∧ o < (S.calls.length : Nat)
   change (S.owners ++ [S.now])[i]? = some o at hi
   rcases Nat.lt_or_ge i S.owners.length with hlt | hge
   ·rw [List.getElem?_append_left hlt] at hi
    exact a5 i o hi
   ·rw [List.getElem?_append_right hge] at hi
    obtain rfl : S.now = o := by
     cases hq : i - S.owners.length with
     | zero => rw [hq] at hi; simpa using hi
     | succ q => rw [hq] at hi; simp at hi
    exact ⟨n0, nl⟩
theorem Whole.inv {t : List Tr} (h : Whole t) : ∀ j, j ≤ t.length → TInv t j
 | 0, _ => ⟨by simp [ods], by simp only [List.take_zero]; exact rfl, rfl, Nat.le_refl _, fun i o hi => by simp [tds] at hi, fun i c hi => by simp [tds] at hi, by simp [tds]⟩
 | j + 1, hj => by
  have hi := h.inv j (by omega)
  obtain ⟨e, he⟩ : ∃ e, t[j]? = some e := ⟨_, List.getElem?_eq_getElem (by omega)⟩
  refine tinv_step hi he ?_
  cases j with
  | zero =>
   obtain ⟨e', he', hb⟩ := h.beg
   rw [he] at he'
   cases he'
   exact .inl hb
  | succ j => exact .inr (h.pos (j + 1) (by omega) (by omega))
theorem Whole.at {t : List Tr} (h : Whole t) {j : Nat} {e : Tr} (he : t[j]? = some e) (hb : ¬ Beg e.1) : 1 ≤ (ods (t.take j)).1 := by
 have hj := (List.getElem?_eq_some_iff.1 he).1
 cases j with
 | zero =>
  obtain ⟨e', he', hb'⟩ := h.beg
  rw [he] at he'
  cases he'
  exact absurd hb' hb
 | succ j => exact h.pos (j + 1) (by omega) hj
theorem whole_W (p : Pg) (fuel f arg : Int) : Whole (whole p fuel f arg).1.trace := by
 refine ⟨?_, (whole_J p fuel f arg).2⟩
 have hg : JGood (0 + 1 + 1) (call p fuel 7) := call_J 7 _
 have hb := begin_at (o := 0) (m := start) (c := newFrame f 1 arg) (Int.le_refl _) rfl (fun j h0 hj => absurd hj (by show ¬ j ≤ 0; omega)) rfl
 have g1 := body_at (o := 0 + 1) (inner := call p fuel 7) (b := p.getD (newFrame f 1 arg).f.toNat []) (fuel := fuel) hg (by omega) (fuel.toNat + 1) _ _ 0 rfl hb
 have hw : whole p fuel f arg = afterB (call p fuel 7) (body (call p fuel 7) (p.getD (newFrame f 1 arg).f.toNat []) fuel (fuel.toNat + 1) (begin_ start (newFrame f 1 arg)) { newFrame f 1 arg with kind := 1 } 0) := rfl
 rw [hw]
 clear hw
 generalize body (call p fuel 7) (p.getD (newFrame f 1 arg).f.toNat []) fuel (fuel.toNat + 1) (begin_ start (newFrame f 1 arg)) { newFrame f 1 arg with kind := 1 } 0 = r at *
 have len : ∀ {m : M}, (∃ o', 1 ≤ o' ∧ J m o') → 1 ≤ m.trace.length := fun {m} ⟨o, h0, h⟩ => by
  have := h.eq
  cases hm : m.trace with
  | nil => rw [hm] at this; simp [ods] at this; omega
  | cons a l => simp
 have fin : ∀ {m : M}, (∃ o', 1 ≤ o' ∧ J m o') → 1 ≤ (ods (m.trace.take 1)).1 := fun {m} h => by
  have hl := len h
  obtain ⟨o, _, h⟩ := h
  exact h.pos 1 (by omega) hl
 unfold afterB
 split
 ·exact fin g1.any
 ·rename_i hsp
  have g2 := dfr_at (o := 0 + 1) (inner := call p fuel 7) hg (by omega) r.2.defers.length r.1 r.2 (by simpa using hsp) g1
  generalize dfr (call p fuel 7) r.2.defers.length r.1 r.2 = q at *
  unfold closeC
  split
  ·exact fin g2.any
  ·obtain ⟨e, he, hod, hdp, hsp'⟩ := finish_od (o := 0 + 1) (d := q.1.deep) (m := q.1) g2.k
   show 1 ≤ (ods ((finish q.1 q.2).trace.take 1)).1
   rw [he, List.take_append_of_le_length (len g2.any)]
   exact fin g2.any
def ReadTo (t : List Tr) (k j : Nat) : Prop :=
 k < j ∧ j ≤ t.length ∧ (j = t.length ∨ ((tds (t.take j)).now = (tds (t.take k)).now ∧ (ods (t.take j)).1 = (ods (t.take k)).1))
def Reading (t : List Tr) (k i : Nat) : Prop :=
 k < i ∧ i ≤ t.length ∧ (i = t.length ∨ ((tds (t.take i)).now = (tds (t.take k)).calls.length ∧ (ods (t.take i)).1 = (ods (t.take k)).1 + 1)) ∧
  ∃ x, (tds (t.take i)).calls[(tds (t.take k)).calls.length]? = some x ∧ x.par = (tds (t.take k)).now
theorem reading_beg {t : List Tr} {k : Nat} {e : Tr} (he : t[k]? = some e) (hb : Beg e.1) : Reading t k (k + 1) := by
 have hk := (List.getElem?_eq_some_iff.1 he).1
 refine ⟨by omega, by omega, .inr ?_, ?_⟩
 ·rw [tds_take he, ods_take' he, od_beg hb]
  unfold td
  rw [if_pos hb]
  exact ⟨rfl, rfl⟩
 ·rw [tds_take he]
  unfold td
  rw [if_pos hb]
  exact ⟨⟨e.2.1, (tds (t.take k)).now, e.1 == 3, 4, 0⟩, by simp, rfl⟩
theorem reading_call {t : List Tr} {k i j : Nat} (h : Reading t k i) (hi : i < t.length) (hr : ReadTo t i j) : Reading t k j := by
 obtain ⟨h1, h2, h3, x, hx, hp⟩ := h
 obtain ⟨r1, r2, r3⟩ := hr
 obtain ⟨y, hy, hq⟩ := kept_le t (i := i) (j := j) (by omega) _ _ hx
 refine ⟨by omega, r2, ?_, y, hy, hq.trans hp⟩
 rcases r3 with r3 | ⟨r3, r4⟩
 ·exact .inl r3
 ·rcases h3 with h3 | ⟨h3, h4⟩
  ·omega
  ·exact .inr ⟨by rw [r3, h3], by rw [r4, h4]⟩
theorem reading_own {t : List Tr} {k i : Nat} {e : Tr} (h : Reading t k i) (he : t[i]? = some e) (hb : ¬ Beg e.1) (hf : ¬ Fin e.1) : Reading t k (i + 1) := by
 have hi := (List.getElem?_eq_some_iff.1 he).1
 obtain ⟨h1, h2, h3, x, hx, hp⟩ := h
 obtain ⟨y, hy, hq⟩ := kept_le t (i := i) (j := i + 1) (by omega) _ _ hx
 refine ⟨by omega, by omega, ?_, y, hy, hq.trans hp⟩
 rcases h3 with h3 | ⟨h3, h4⟩
 ·omega
 ·refine .inr ?_
  rw [tds_take he, ods_take' he, od_else hb hf]
  unfold td
  rw [if_neg hb, if_neg hf]
  exact ⟨h3, h4⟩
theorem reading_end {t : List Tr} {k i : Nat} {e : Tr} (h : Reading t k i) (he : t[i]? = some e) (hf : Fin e.1) : ReadTo t k (i + 1) := by
 have hi := (List.getElem?_eq_some_iff.1 he).1
 have hb : ¬ Beg e.1 := fun hb => beg_fin hb hf
 obtain ⟨h1, h2, h3, x, hx, hp⟩ := h
 refine ⟨by omega, by omega, .inr ?_⟩
 rcases h3 with h3 | ⟨h3, h4⟩
 ·omega
 ·rw [tds_take he, ods_take' he, od_fin hf]
  unfold td
  rw [if_neg hb, if_pos hf]
  refine ⟨?_, by omega⟩
  show parAt _ (tds (t.take i)).now = _
  rw [h3]
  unfold parAt
  rw [Int.toNat_natCast, hx]
  exact hp
theorem reading_all {t : List Tr} {k : Nat} (h : Reading t k t.length) : ReadTo t k t.length := ⟨h.1, h.2.1, .inl rfl⟩
theorem Reading.now {t : List Tr} {k i : Nat} (h : Reading t k i) (hi : i < t.length) : (tds (t.take i)).now = (tds (t.take k)).calls.length := by
 rcases h.2.2.1 with h3 | h3
 ·omega
 ·exact h3.1
theorem Whole.all {t : List Tr} (h : Whole t) {j : Nat} (hr : ReadTo t 0 j) : j = t.length := by
 rcases hr.2.2 with h3 | ⟨_, h3⟩
 ·exact h3
 ·rcases Nat.lt_or_ge j t.length with hlt | hge
  ·have := h.pos j hr.1 hlt
   rw [h3] at this
   simp [ods] at this
  ·exact Nat.le_antisymm hr.2.1 hge
end Go.Proofs.Ytikdcnlbjpabjab.PL
