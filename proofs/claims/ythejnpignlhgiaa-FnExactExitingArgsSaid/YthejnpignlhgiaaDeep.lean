import Derived.Test.YthejnpignlhgiaaM1
set_option linter.all false
namespace Go.Proofs.Ythejnpignlhgiaa.PL
def od (x : Int × Int) (e : Tr) : Int × Int :=
 if e.1 = 1 ∨ e.1 = 3 then (x.1 + 1, if x.2 > x.1 + 1 then x.2 else x.1 + 1)
 else if e.1 = 7 ∨ e.1 = 8 ∨ e.1 = 9 then (x.1 - 1, x.2)
 else x
def ods (l : List Tr) : Int × Int := l.foldl od (0, 0)
theorem ods_nil : ods [] = (0, 0) := rfl
theorem ods_snoc (l : List Tr) (e : Tr) : ods (l ++ [e]) = od (ods l) e := by simp [ods]
structure J (m : M) (o : Int) : Prop where
 eq : ods m.trace = (o, m.deep)
 pos : ∀ j, 0 < j → j ≤ m.trace.length → 1 ≤ (ods (m.trace.take j)).1
theorem J.put {m m' : M} {o o' : Int} {e : Tr} (h : J m o) (ht : m'.trace = m.trace ++ [e]) (he : od (o, m.deep) e = (o', m'.deep)) (ho : 1 ≤ o') : J m' o' := by
 have h1 : ods m'.trace = (o', m'.deep) := by rw [ht, ods_snoc, h.eq, he]
 refine ⟨h1, fun j h0 hj => ?_⟩
 rcases Nat.lt_or_ge m.trace.length j with hlt | hge
 ·rw [List.take_of_length_le (by rw [ht]; simp; omega), h1]
  exact ho
 ·rw [ht, List.take_append_of_le_length hge]
  exact h.pos j h0 hge
theorem J.same {m m' : M} {o : Int} (h : J m o) (ht : m'.trace = m.trace) (hd : m'.deep = m.deep) : J m' o := ⟨by rw [ht, hd]; exact h.eq, by rw [ht]; exact h.pos⟩
def Quiet (k : Int) : Prop := k ≠ 1 ∧ k ≠ 3 ∧ k ≠ 7 ∧ k ≠ 8 ∧ k ≠ 9
theorem J.tell {m : M} {o : Int} (h : J m o) (k f v : Int) (hk : Quiet k) (ho : 1 ≤ o) : J (tell m k f v) o := by
 obtain ⟨a, b, c, d, e⟩ := hk
 exact h.put (e := (k, f, v)) rfl (by unfold od; simp [a, b, c, d, e]; rfl) ho
theorem J.simple {m : M} {o : Int} (h : J m o) (ho : 1 ≤ o) (c : Fr) (s : Tr) : J (simple m c s).1 o := by
 unfold PL.simple
 split
 ·exact h
 ·split
  ·exact h
  ·split
   ·exact h.tell _ _ _ (by unfold Quiet; decide) ho
   ·split
    ·exact h
    ·split
     ·exact h.same rfl rfl
     ·split
      ·exact h
      ·split
       ·split
        ·exact h.tell _ _ _ (by unfold Quiet; decide) ho
        ·exact h
       ·exact h
theorem simple_spent (m : M) (c : Fr) (s : Tr) : (simple m c s).1.spent = m.spent ∧ (simple m c s).2.kind = c.kind ∧ (simple m c s).2.depth = c.depth := by
 unfold simple
 repeat' split
 all_goals (first | exact ⟨rfl, rfl, rfl⟩ | exact ⟨rfl, setReg_kind _ _ _, setReg_depth _ _ _⟩ | exact ⟨rfl, (setReg_kind _ _ _).trans (setReg_kind _ _ _), (setReg_depth _ _ _).trans (setReg_depth _ _ _)⟩)
def K3 (c : Fr) : Prop := c.kind = 1 ∨ c.kind = 2 ∨ c.kind = 3
def JGood (D : Int) (inner : Call) : Prop := ∀ (m : M) (c : Fr) (o : Int), 1 ≤ o → J m o → o + 1 = D → c.depth = D → m.spent = false →
 (∃ o', 1 ≤ o' ∧ J (inner m c).1 o') ∧ ((inner m c).1.spent = false → J (inner m c).1 o)
structure At (o : Int) (m : M) (c : Fr) : Prop where
 d : c.depth = o
 k : K3 c
 any : ∃ o', 1 ≤ o' ∧ J m o'
 now : m.spent = false → J m o
theorem innerEnd_at (c i : Fr) (a : Int) (h : K3 c) : K3 (innerEnd c i a).1 ∧ (innerEnd c i a).1.depth = c.depth := by
 unfold innerEnd
 repeat' split
 ·exact ⟨h, rfl⟩
 ·exact ⟨.inr (.inl rfl), rfl⟩
 ·exact ⟨.inr (.inr rfl), rfl⟩
 ·exact ⟨h, rfl⟩
theorem mk_at {o : Int} {inner : Call} (hg : JGood (o + 1) inner) (ho : 1 ≤ o) {m : M} {c : Fr} (hs : m.spent = false) (h : At o m c) (a : Int) (s : Tr) : At o (mk inner m c a s).1 (mk inner m c a s).2.1 := by
 have hJ := h.now hs
 unfold mk
 split
 ·obtain ⟨g1, g2⟩ := hg m (newFrame s.2.1 (c.depth + 1) (reg c s.2.2)) o ho hJ rfl (by show c.depth + 1 = o + 1; rw [h.d]) hs
  obtain ⟨k1, k2⟩ := innerEnd_at c (inner m (newFrame s.2.1 (c.depth + 1) (reg c s.2.2))).2 a h.k
  exact ⟨k2.trans h.d, k1, g1, g2⟩
 ·split
  ·have := hJ.tell 2 s.2.1 (reg c s.2.2) (by unfold Quiet; decide) ho
   exact ⟨h.d, h.k, ⟨o, ho, this⟩, fun _ => this⟩
  ·split
   ·have := hJ.tell 5 c.f (reg c s.2.1) (by unfold Quiet; decide) ho
    exact ⟨h.d, .inr (.inl rfl), ⟨o, ho, this⟩, fun _ => this⟩
   ·split
    ·exact ⟨h.d, h.k, h.any, h.now⟩
    ·split
     ·exact ⟨h.d, .inr (.inr rfl), h.any, h.now⟩
     ·split
      ·exact ⟨h.d, h.k, h.any, h.now⟩
      ·obtain ⟨s1, s2, s3⟩ := simple_spent m c s
       have := hJ.simple ho c s
       exact ⟨s3.trans h.d, by unfold K3; rw [s2]; exact h.k, ⟨o, ho, this⟩, fun _ => this⟩
theorem body_at {o : Int} {inner : Call} (hg : JGood (o + 1) inner) (ho : 1 ≤ o) {b : List Tr} {fuel : Int} :
  ∀ (k : Nat) (m : M) (c : Fr) (a : Int), m.spent = false → At o m c → At o (body inner b fuel k m c a).1 (body inner b fuel k m c a).2
 | 0, m, c, a, _, h => h
 | k + 1, m, c, a, hs, h => by
  unfold body
  split
  ·split
   ·exact h
   ·split
    ·exact ⟨h.d, h.k, ⟨o, ho, (h.now hs).same rfl rfl⟩, fun _ => (h.now hs).same rfl rfl⟩
    ·have hc : At o (count m c.f a) c := ⟨h.d, h.k, ⟨o, ho, (h.now hs).same rfl rfl⟩, fun _ => (h.now hs).same rfl rfl⟩
     rename_i s _ _
     have g := mk_at hg ho (m := count m c.f a) hs hc a s
     generalize mk inner (count m c.f a) c a s = r at *
     obtain ⟨m', c', a'⟩ := r
     dsimp only at g ⊢
     split
     ·exact g
     ·rename_i hsp
      exact body_at hg ho k m' c' a' (by simpa using hsp) g
  ·exact h
theorem lastEnd_at {c i : Fr} (h : K3 c) : K3 (lastEnd c i) ∧ (lastEnd c i).depth = c.depth := by
 refine ⟨?_, rfl⟩
 unfold K3 lastEnd
 dsimp only
 repeat' split
 all_goals (first | exact .inr (.inl rfl) | exact .inr (.inr rfl) | exact .inl rfl | exact h)
theorem dfr_at {o : Int} {inner : Call} (hg : JGood (o + 1) inner) (ho : 1 ≤ o) :
  ∀ (k : Nat) (m : M) (c : Fr), m.spent = false → At o m c → At o (dfr inner k m c).1 (dfr inner k m c).2
 | 0, m, c, _, h => h
 | k + 1, m, c, hs, h => by
  unfold dfr
  split
  ·exact h
  ·rename_i d hd
   obtain ⟨g1, g2⟩ := hg m (lastFrame c d) o ho (h.now hs) rfl (by show c.depth + 1 = o + 1; rw [h.d]) hs
   generalize inner m (lastFrame c d) = r at *
   obtain ⟨m', i⟩ := r
   dsimp only at g1 g2 ⊢
   split
   ·exact ⟨h.d, h.k, g1, g2⟩
   ·rename_i hsp
    obtain ⟨k1, k2⟩ := lastEnd_at (c := dropL c) (i := i) h.k
    exact dfr_at hg ho k m' (lastEnd (dropL c) i) (by simpa using hsp) ⟨k2.trans h.d, k1, g1, g2⟩
theorem finish_od {o d : Int} {m : M} {c : Fr} (hk : K3 c) : ∃ e : Tr, (finish m c).trace = m.trace ++ [e] ∧ od (o, d) e = (o - 1, d) ∧ (finish m c).deep = m.deep ∧ (finish m c).spent = m.spent := by
 unfold finish
 rcases hk with h | h | h
 ·rw [if_pos h]
  exact ⟨_, rfl, rfl, rfl, rfl⟩
 ·rw [if_neg (by omega), if_pos h]
  exact ⟨_, rfl, rfl, rfl, rfl⟩
 ·rw [if_neg (by omega), if_neg (by omega), if_pos h]
  exact ⟨_, rfl, rfl, rfl, rfl⟩
theorem begin_od {o : Int} {m : M} {c : Fr} (h : ods m.trace = (o, m.deep)) (hd : c.depth = o + 1) : ods (begin_ m c).trace = (o + 1, (begin_ m c).deep) := by
 show ods (m.trace ++ [_]) = _
 rw [ods_snoc, h]
 have hk : ((if c.deferred = true then (3 : Int) else 1) = 1 ∨ (if c.deferred = true then (3 : Int) else 1) = 3) := by split <;> simp
 unfold od
 rw [if_pos hk]
 show (o + 1, if m.deep > o + 1 then m.deep else o + 1) = (o + 1, if m.deep > c.depth then m.deep else c.depth)
 rw [hd]
theorem begin_at {o : Int} {m : M} {c : Fr} (ho : 0 ≤ o) (h : ods m.trace = (o, m.deep)) (hp : ∀ j, 0 < j → j ≤ m.trace.length → 1 ≤ (ods (m.trace.take j)).1) (hd : c.depth = o + 1) : At (o + 1) (begin_ m c) { c with kind := 1 } := by
 have h1 := begin_od h hd
 have : J (begin_ m c) (o + 1) := by
  refine ⟨h1, fun j h0 hj => ?_⟩
  have ht : (begin_ m c).trace = m.trace ++ [((if c.deferred = true then (3 : Int) else 1), c.f, c.r0)] := rfl
  rcases Nat.lt_or_ge m.trace.length j with hlt | hge
  ·rw [List.take_of_length_le (by rw [ht]; simp; omega), h1]
   show 1 ≤ o + 1
   omega
  ·rw [ht, List.take_append_of_le_length hge]
   exact hp j h0 hge
 exact ⟨hd, .inl rfl, ⟨o + 1, by omega, this⟩, fun _ => this⟩
theorem call_J {p : Pg} {fuel : Int} : ∀ d : Nat, ∀ D : Int, JGood D (call p fuel d)
 | 0, D => fun m c o ho hJ hD hd hs => ⟨⟨o, ho, hJ.same rfl rfl⟩, fun h => by cases h⟩
 | d + 1, D => fun m c o ho hJ hD hd hs => by
  have hg : JGood (o + 1 + 1) (call p fuel d) := call_J d _
  have hb := begin_at (m := m) (c := c) (by omega) hJ.eq hJ.pos (by omega)
  have hsb : (begin_ m c).spent = false := hs
  have g1 := body_at (o := o + 1) (inner := call p fuel d) (b := p.getD c.f.toNat []) (fuel := fuel) hg (by omega) (fuel.toNat + 1) _ _ 0 hsb hb
  show (∃ o', 1 ≤ o' ∧ J (afterB (call p fuel d) (body (call p fuel d) (p.getD c.f.toNat []) fuel (fuel.toNat + 1) (begin_ m c) { c with kind := 1 } 0)).1 o') ∧
   ((afterB (call p fuel d) (body (call p fuel d) (p.getD c.f.toNat []) fuel (fuel.toNat + 1) (begin_ m c) { c with kind := 1 } 0)).1.spent = false →
    J (afterB (call p fuel d) (body (call p fuel d) (p.getD c.f.toNat []) fuel (fuel.toNat + 1) (begin_ m c) { c with kind := 1 } 0)).1 o)
  generalize body (call p fuel d) (p.getD c.f.toNat []) fuel (fuel.toNat + 1) (begin_ m c) { c with kind := 1 } 0 = r at *
  unfold afterB
  split
  ·rename_i hsp
   exact ⟨g1.any, fun h => by rw [hsp] at h; cases h⟩
  ·rename_i hsp
   have g2 := dfr_at (o := o + 1) (inner := call p fuel d) hg (by omega) r.2.defers.length r.1 r.2 (by simpa using hsp) g1
   generalize dfr (call p fuel d) r.2.defers.length r.1 r.2 = q at *
   unfold closeC
   split
   ·rename_i hsq
    exact ⟨g2.any, fun h => by rw [hsq] at h; cases h⟩
   ·rename_i hsq
    obtain ⟨e, he, hod, hdp, hsp'⟩ := finish_od (o := o + 1) (d := q.1.deep) (m := q.1) g2.k
    have : J (finish q.1 q.2) o := (g2.now (by simpa using hsq)).put he (by rw [hod, hdp]; congr 1; omega) ho
    exact ⟨⟨o, ho, this⟩, fun _ => this⟩
theorem whole_J (p : Pg) (fuel f arg : Int) : (ods (whole p fuel f arg).1.trace).2 = (whole p fuel f arg).1.deep ∧
  ∀ j, 0 < j → j < (whole p fuel f arg).1.trace.length → 1 ≤ (ods ((whole p fuel f arg).1.trace.take j)).1 := by
 have hg : JGood (0 + 1 + 1) (call p fuel 7) := call_J 7 _
 have hb := begin_at (o := 0) (m := start) (c := newFrame f 1 arg) (Int.le_refl _) rfl (fun j h0 hj => absurd hj (by show ¬ j ≤ 0; omega)) rfl
 have g1 := body_at (o := 0 + 1) (inner := call p fuel 7) (b := p.getD (newFrame f 1 arg).f.toNat []) (fuel := fuel) hg (by omega) (fuel.toNat + 1) _ _ 0 rfl hb
 have hw : whole p fuel f arg = afterB (call p fuel 7) (body (call p fuel 7) (p.getD (newFrame f 1 arg).f.toNat []) fuel (fuel.toNat + 1) (begin_ start (newFrame f 1 arg)) { newFrame f 1 arg with kind := 1 } 0) := rfl
 rw [hw]
 clear hw
 generalize body (call p fuel 7) (p.getD (newFrame f 1 arg).f.toNat []) fuel (fuel.toNat + 1) (begin_ start (newFrame f 1 arg)) { newFrame f 1 arg with kind := 1 } 0 = r at *
 have fin : ∀ {m : M}, (∃ o', 1 ≤ o' ∧ J m o') → (ods m.trace).2 = m.deep ∧ ∀ j, 0 < j → j < m.trace.length → 1 ≤ (ods (m.trace.take j)).1 :=
  fun ⟨o, _, h⟩ => ⟨by rw [h.eq], fun j h0 hj => h.pos j h0 (by omega)⟩
 unfold afterB
 split
 ·exact fin g1.any
 ·rename_i hsp
  have g2 := dfr_at (o := 0 + 1) (inner := call p fuel 7) hg (by omega) r.2.defers.length r.1 r.2 (by simpa using hsp) g1
  generalize dfr (call p fuel 7) r.2.defers.length r.1 r.2 = q at *
  unfold closeC
  split
  ·exact fin g2.any
  ·rename_i hsq
   obtain ⟨e, he, hod, hdp, hsp'⟩ := finish_od (o := 0 + 1) (d := q.1.deep) (m := q.1) g2.k
   have hj := g2.now (by simpa using hsq)
   refine ⟨?_, fun j h0 hj' => ?_⟩
   ·show (ods (finish q.1 q.2).trace).2 = (finish q.1 q.2).deep
    rw [he, ods_snoc, hj.eq, hod, hdp]
   ·change j < (finish q.1 q.2).trace.length at hj'
    show 1 ≤ (ods ((finish q.1 q.2).trace.take j)).1
    rw [he] at hj' ⊢
    simp at hj'
    rw [List.take_append_of_le_length (by omega)]
    exact hj.pos j h0 (by omega)
end Go.Proofs.Ythejnpignlhgiaa.PL
-- squeezed
