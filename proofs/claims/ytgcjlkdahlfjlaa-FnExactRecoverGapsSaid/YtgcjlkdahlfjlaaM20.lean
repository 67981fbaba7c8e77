/- Pan Ptr Psim, in one text. -/
import Derived.Test.YtgcjlkdahlfjlaaM14
set_option linter.unusedVariables false
set_option linter.unusedSimpArgs false
/- What a trace tells of panics, as a stack of the calls that are open: in a run no call unwinds without a panic, and no recover counts without one. -/
namespace Go.Proofs.Ytgcjlkdahlfjlaa.PL

abbrev PStk := List (Bool × Bool)
def setTop (O : PStk) (x : Bool) : PStk := match O with
 | [] => []
 | (d, _) :: S => (d, x) :: S
def topOn (O : PStk) : Bool := match O with
 | [] => false
 | (_, x) :: _ => x
def pd (s : PStk × Bool) (e : Tr) : PStk × Bool :=
 if e.1 = 1 ∨ e.1 = 3 then ((e.1 == 3, false) :: s.1, s.2)
 else match s.1 with
  | [] => ([], false)
  | (d, x) :: O =>
   if e.1 = 5 then ((d, true) :: O, s.2)
   else if e.1 = 6 then ((d, x) :: setTop O false, s.2 && topOn O)
   else if e.1 = 7 then (O, s.2)
   else if e.1 = 8 then (setTop O true, s.2 && (x && (d || !topOn O)))
   else if e.1 = 9 then (setTop O false, s.2 && (d || !topOn O))
   else s
def pds (l : List Tr) : PStk × Bool := l.foldl pd ([], true)
theorem pds_snoc (l : List Tr) (e : Tr) : pds (l ++ [e]) = pd (pds l) e := by simp [pds]
theorem pds_take {l : List Tr} {j : Nat} {e : Tr} (h : l[j]? = some e) : pds (l.take (j + 1)) = pd (pds (l.take j)) e := by
 rw [List.take_add_one, h]
 exact pds_snoc _ _
theorem pd_ok {s : PStk × Bool} {e : Tr} (h : (pd s e).2 = true) : s.2 = true := by
 unfold pd at h
 split at h
 ·exact h
 ·split at h
  ·cases h
  ·repeat' split at h
   all_goals first | exact h | (simp only [Bool.and_eq_true] at h; exact h.1)
theorem pds_ok {l : List Tr} (h : (pds l).2 = true) (j : Nat) : (pds (l.take j)).2 = true := by
 have : ∀ d, (pds (l.take (l.length - d))).2 = true := by
  intro d
  induction d with
  | zero => rw [Nat.sub_zero, List.take_length]; exact h
  | succ d ih =>
   cases hq : l[l.length - (d + 1)]? with
   | none =>
    have := List.getElem?_eq_none_iff.1 hq
    rw [show l.length - (d + 1) = l.length - d by omega]
    exact ih
   | some e =>
    have hlt := (List.getElem?_eq_some_iff.1 hq).1
    by_cases hd : d < l.length
    ·have := pds_take hq
     rw [show l.length - (d + 1) + 1 = l.length - d by omega] at this
     rw [this] at ih
     exact pd_ok ih
    ·rw [show l.length - (d + 1) = l.length - d by omega]
     exact ih
 rcases Nat.le_total j l.length with hj | hj
 ·have := this (l.length - j)
  rwa [show l.length - (l.length - j) = j by omega] at this
 ·rw [List.take_of_length_le hj]
  exact h
theorem setTop_setTop (O : PStk) (x y : Bool) : setTop (setTop O x) y = setTop O y := by unfold setTop; cases O <;> rfl
theorem topOn_setTop {O : PStk} (h : O ≠ []) (x : Bool) : topOn (setTop O x) = x := by
 cases O with
 | nil => exact absurd rfl h
 | cons a S => rfl
theorem topOn_false (O : PStk) : topOn (setTop O false) = false := by cases O <;> rfl
def onOut (c : Fr) : Bool := c.panicking && !c.recovered
def endOn (c : Fr) : Bool := if c.kind = 2 then true else if c.kind = 3 then false else onOut c
structure PPre (m : M) (c : Fr) (O : PStk) : Prop where
 ps : pds m.trace = (setTop O c.panicking, true)
 out : c.panicking = true → O ≠ []
 dfr : c.panicking = true → c.deferred = true
 new : c.recovered = false
structure PIn (m : M) (c : Fr) (O : PStk) : Prop where
 ok : (pds m.trace).2 = true
 k : K3 c
 now : m.spent = false → pds m.trace = ((c.deferred, decide (c.kind = 2)) :: setTop O (onOut c), true)
 out : c.panicking = true → O ≠ []
 dfr : c.panicking = true → c.deferred = true
def PGood (inner : Call) : Prop := ∀ (m : M) (c : Fr) (O : PStk), PPre m c O → m.spent = false →
 (pds (inner m c).1.trace).2 = true ∧ (inner m c).2.panicking = c.panicking ∧
  ((inner m c).1.spent = false → K3 (inner m c).2 ∧ pds (inner m c).1.trace = (setTop O (endOn (inner m c).2), true))
theorem setReg_rec (c : Fr) (i v : Int) : (setReg c i v).recovered = c.recovered := by unfold setReg; split <;> (try split) <;> (try split) <;> rfl
theorem onOut_set (c : Fr) (i v : Int) : onOut (setReg c i v) = onOut c := by unfold onOut; rw [setReg_rec, (setReg_same c i v).2.2.2.1]
theorem pd_quiet {s : PStk × Bool} {a : Bool × Bool} {O : PStk} (hs : s = (a :: O, true)) {e : Tr} (h : e.1 = 2 ∨ e.1 = 4) : pd s e = s := by
 subst hs
 obtain ⟨d, x⟩ := a
 unfold pd
 rw [if_neg (by omega)]
 dsimp only
 rw [if_neg (by omega), if_neg (by omega), if_neg (by omega), if_neg (by omega), if_neg (by omega)]
theorem PIn.setReg {m : M} {c : Fr} {O : PStk} (h : PIn m c O) (i v : Int) : PIn m (PL.setReg c i v) O := by
 have hs := setReg_same c i v
 refine ⟨h.ok, by unfold K3; rw [setReg_kind]; exact h.k, fun hsp => ?_, fun hp => h.out (by rw [← hs.2.2.2.1]; exact hp), fun hp => by rw [hs.2.2.1]; exact h.dfr (by rw [← hs.2.2.2.1]; exact hp)⟩
 rw [h.now hsp, onOut_set, setReg_kind, hs.2.2.1]
theorem PIn.quiet {m : M} {c : Fr} {O : PStk} (h : PIn m c O) (hs : m.spent = false) (k f v : Int) (hk : k = 2 ∨ k = 4) : PIn (tell m k f v) c O := by
 have h1 : pds (tell m k f v).trace = pds m.trace := by
  show pds (m.trace ++ [(k, f, v)]) = _
  rw [pds_snoc, pd_quiet (h.now hs) hk]
 exact ⟨by rw [h1]; exact h.ok, h.k, fun _ => by rw [h1]; exact h.now hs, h.out, h.dfr⟩
theorem PIn.same {m m' : M} {c : Fr} {O : PStk} (h : PIn m c O) (ht : m'.trace = m.trace) (hs : m'.spent = false → m.spent = false) : PIn m' c O :=
 ⟨by rw [ht]; exact h.ok, h.k, fun h' => by rw [ht]; exact h.now (hs h'), h.out, h.dfr⟩
theorem PIn.frame {m : M} {c c' : Fr} {O : PStk} (h : PIn m c O) (hk : c'.kind = c.kind) (hd : c'.deferred = c.deferred) (hp : c'.panicking = c.panicking) (hr : c'.recovered = c.recovered) : PIn m c' O :=
 ⟨h.ok, by unfold K3; rw [hk]; exact h.k, fun hs => by rw [h.now hs]; unfold onOut; rw [hk, hd, hp, hr], fun x => h.out (by rw [← hp]; exact x), fun x => by rw [hd]; exact h.dfr (by rw [← hp]; exact x)⟩
theorem simple_p {m : M} {c : Fr} {O : PStk} (hs : m.spent = false) (h : PIn m c O) (s : Tr) : PIn (simple m c s).1 (simple m c s).2 O := by
 unfold simple
 split
 ·exact h.setReg _ _
 ·split
  ·exact h.setReg _ _
  ·split
   ·exact h.quiet hs _ _ _ (.inr rfl)
   ·split
    ·show PIn m (if c.deferred then { c with outer := reg c s.2.1 } else c) O
     split
     ·exact h.frame rfl rfl rfl rfl
     ·exact h
    ·split
     ·exact h.same rfl id
     ·split
      ·exact h.setReg _ _
      ·split
       ·split
        ·rename_i hp
         simp only [Bool.and_eq_true, Bool.not_eq_true'] at hp
         have hO := h.out hp.1
         have hon : onOut c = true := by unfold onOut; rw [hp.1, hp.2]; rfl
         have hn := h.now hs
         rw [hon] at hn
         have h1 : pds (tell m 6 c.f c.panic).trace = ((c.deferred, decide (c.kind = 2)) :: setTop O false, true) := by
          show pds (m.trace ++ [(6, c.f, c.panic)]) = _
          rw [pds_snoc, hn]
          unfold pd
          rw [if_neg (by show ¬ ((6 : Int) = 1 ∨ (6 : Int) = 3); decide)]
          dsimp only
          rw [if_neg (by decide), if_pos rfl, setTop_setTop, topOn_setTop hO]
          rfl
         have h2 : PIn (tell m 6 c.f c.panic) { c with recovered := true } O := by
          refine ⟨by rw [h1], h.k, fun _ => ?_, h.out, h.dfr⟩
          rw [h1]
          unfold onOut
          simp
         exact PIn.setReg (PIn.setReg h2 s.2.1 c.panic) 3 1
        ·exact PIn.setReg (PIn.setReg h s.2.1 0) 3 0
       ·exact h
theorem innerEnd_p {c i : Fr} {a : Int} (h : K3 i) (hc : c.kind = 1) (hp : i.panicking = false) : K3 (innerEnd c i a).1 ∧ decide ((innerEnd c i a).1.kind = 2) = endOn i ∧ (innerEnd c i a).1.deferred = c.deferred ∧ (innerEnd c i a).1.panicking = c.panicking ∧ (innerEnd c i a).1.recovered = c.recovered ∧ (0 ≤ (innerEnd c i a).2 → (innerEnd c i a).1.kind = 1) := by
 unfold innerEnd endOn onOut
 rw [hp]
 rcases h with h | h | h
 ·rw [if_pos h, if_neg (by omega), if_neg (by omega)]
  exact ⟨.inl hc, by simp [hc], rfl, rfl, rfl, fun _ => hc⟩
 ·rw [if_neg (by omega), if_pos h, if_pos h]
  exact ⟨.inr (.inl rfl), by simp, rfl, rfl, rfl, fun h => absurd h (by show ¬ (0 : Int) ≤ -1; decide)⟩
 ·rw [if_neg (by omega), if_neg (by omega), if_pos h, if_neg (by omega), if_pos h]
  exact ⟨.inr (.inr rfl), by simp, rfl, rfl, rfl, fun h => absurd h (by show ¬ (0 : Int) ≤ -1; decide)⟩
theorem mk_p {inner : Call} (hg : PGood inner) {m : M} {c : Fr} {O : PStk} (hs : m.spent = false) (h : PIn m c O) (hc : c.kind = 1) (a : Int) (s : Tr) :
  PIn (mk inner m c a s).1 (mk inner m c a s).2.1 O ∧ (mk inner m c a s).2.1.panicking = c.panicking ∧ ((mk inner m c a s).1.spent = false → 0 ≤ (mk inner m c a s).2.2 → (mk inner m c a s).2.1.kind = 1) := by
 have hn := h.now hs
 have hk2 : decide (c.kind = 2) = false := by simp [hc]
 unfold mk
 split
 ·have hpre : PPre m (newFrame s.2.1 (c.depth + 1) (reg c s.2.2)) ((c.deferred, false) :: setTop O (onOut c)) :=
   ⟨by rw [hn, hk2]; rfl, fun h => (by cases h), fun h => (by cases h), rfl⟩
  obtain ⟨g1, g2, g3⟩ := hg _ _ _ hpre hs
  show PIn (inner m (newFrame s.2.1 (c.depth + 1) (reg c s.2.2))).1 (innerEnd c (inner m (newFrame s.2.1 (c.depth + 1) (reg c s.2.2))).2 a).1 O ∧ _ ∧ ((inner m (newFrame s.2.1 (c.depth + 1) (reg c s.2.2))).1.spent = false → 0 ≤ (innerEnd c (inner m (newFrame s.2.1 (c.depth + 1) (reg c s.2.2))).2 a).2 → (innerEnd c (inner m (newFrame s.2.1 (c.depth + 1) (reg c s.2.2))).2 a).1.kind = 1)
  change (inner m (newFrame s.2.1 (c.depth + 1) (reg c s.2.2))).2.panicking = false at g2
  have hpi : (mkCall (inner m (newFrame s.2.1 (c.depth + 1) (reg c s.2.2))) c a).2.1 = (innerEnd c (inner m (newFrame s.2.1 (c.depth + 1) (reg c s.2.2))).2 a).1 := rfl
  rw [hpi]
  generalize inner m (newFrame s.2.1 (c.depth + 1) (reg c s.2.2)) = r at *
  obtain ⟨m', i⟩ := r
  dsimp only at g1 g2 g3 ⊢
  have hpp : (innerEnd c i a).1.panicking = c.panicking ∧ (innerEnd c i a).1.deferred = c.deferred ∧ (innerEnd c i a).1.recovered = c.recovered ∧ K3 (innerEnd c i a).1 := by
   unfold innerEnd
   split
   ·exact ⟨rfl, rfl, rfl, h.k⟩
   ·split
    ·exact ⟨rfl, rfl, rfl, .inr (.inl rfl)⟩
    ·split
     ·exact ⟨rfl, rfl, rfl, .inr (.inr rfl)⟩
     ·exact ⟨rfl, rfl, rfl, h.k⟩
  refine ⟨⟨g1, hpp.2.2.2, fun hsp => ?_, fun x => h.out (by rw [← hpp.1]; exact x), fun x => by rw [hpp.2.1]; exact h.dfr (by rw [← hpp.1]; exact x)⟩, hpp.1, fun hsp => ?_⟩
  ·obtain ⟨k1, k2⟩ := g3 hsp
   obtain ⟨e1, e2, e3, e4, e5, e6⟩ := innerEnd_p (a := a) k1 hc g2
   rw [k2, e2, e3]
   unfold onOut
   rw [e4, e5]
   rfl
  ·obtain ⟨k1, k2⟩ := g3 hsp
   exact (innerEnd_p (a := a) k1 hc g2).2.2.2.2.2
 ·split
  ·exact ⟨(h.quiet hs _ _ _ (.inl rfl)).frame rfl rfl rfl rfl, rfl, fun _ _ => hc⟩
  ·split
   ·have h1 : pds (tell m 5 c.f (reg c s.2.1)).trace = ((c.deferred, true) :: setTop O (onOut c), true) := by
     show pds (m.trace ++ [(5, c.f, reg c s.2.1)]) = _
     rw [pds_snoc, hn]
     unfold pd
     rw [if_neg (by show ¬ ((5 : Int) = 1 ∨ (5 : Int) = 3); decide)]
     dsimp only
     rw [if_pos rfl]
    exact ⟨⟨by show (pds (tell m 5 c.f (reg c s.2.1)).trace).2 = true; rw [h1], .inr (.inl rfl), fun _ => by show pds (tell m 5 c.f (reg c s.2.1)).trace = _; rw [h1]; rfl, h.out, h.dfr⟩, rfl, fun _ hh => absurd hh (by show ¬ (0 : Int) ≤ -1; decide)⟩
   ·split
    ·exact ⟨h.frame rfl rfl rfl rfl, rfl, fun _ hh => absurd hh (by show ¬ (0 : Int) ≤ -1; decide)⟩
    ·split
     ·refine ⟨⟨h.ok, .inr (.inr rfl), fun hsp => ?_, h.out, h.dfr⟩, rfl, fun _ hh => absurd hh (by show ¬ (0 : Int) ≤ -1; decide)⟩
      rw [h.now hsp, hk2]
      rfl
     ·split
      ·exact ⟨h, rfl, fun _ _ => hc⟩
      ·obtain ⟨s1, s2, s3⟩ := simple_spent m c s
       refine ⟨simple_p hs h s, ?_, fun _ _ => s2.trans hc⟩
       show (simple m c s).2.panicking = c.panicking
       unfold simple
       repeat' split
       all_goals (first | rfl | exact (setReg_same _ _ _).2.2.2.1 | exact ((setReg_same _ _ _).2.2.2.1).trans ((setReg_same _ _ _).2.2.2.1))
theorem body_p {inner : Call} (hg : PGood inner) {b : List Tr} {fuel : Int} {O : PStk} :
  ∀ (k : Nat) (m : M) (c : Fr) (a : Int), m.spent = false → PIn m c O → (0 ≤ a → c.kind = 1) → PIn (body inner b fuel k m c a).1 (body inner b fuel k m c a).2 O ∧ (body inner b fuel k m c a).2.panicking = c.panicking
 | 0, m, c, a, _, h, _ => ⟨h, rfl⟩
 | k + 1, m, c, a, hs, h, ha => by
  unfold body
  split
  ·rename_i ha0
   split
   ·exact ⟨h, rfl⟩
   ·split
    ·exact ⟨h.same rfl (fun hh => by cases hh), rfl⟩
    ·have hc : PIn (count m c.f a) c O := h.same rfl id
     rename_i s _ _
     have g := mk_p hg (m := count m c.f a) hs hc (ha ha0) a s
     generalize mk inner (count m c.f a) c a s = r at *
     obtain ⟨m', c', a'⟩ := r
     dsimp only at g ⊢
     split
     ·exact ⟨g.1, g.2.1⟩
     ·rename_i hsp
      have hsp' : m'.spent = false := by simpa using hsp
      have ih := body_p hg (b := b) (fuel := fuel) (O := O) k m' c' a' hsp' g.1 (g.2.2 hsp')
      exact ⟨ih.1, ih.2.trans g.2.1⟩
  ·exact ⟨h, rfl⟩
theorem lastEnd_p {c i : Fr} (hi : K3 i) (hc : K3 c) (hp : i.panicking = decide (c.kind = 2)) : K3 (lastEnd c i) ∧ decide ((lastEnd c i).kind = 2) = endOn i := by
 unfold lastEnd endOn onOut K3
 dsimp only
 rcases hi with h | h | h
 ·simp only [h, hp]
  cases i.recovered
  ·exact ⟨hc, by simp⟩
  ·cases (c.leaving || i.leaving) <;> simp
 ·simp [h]
 ·simp [h]
theorem dfr_p {inner : Call} (hg : PGood inner) {O : PStk} :
  ∀ (k : Nat) (m : M) (c : Fr), m.spent = false → PIn m c O → PIn (dfr inner k m c).1 (dfr inner k m c).2 O ∧ (dfr inner k m c).2.panicking = c.panicking
 | 0, m, c, _, h => ⟨h, rfl⟩
 | k + 1, m, c, hs, h => by
  unfold dfr
  split
  ·exact ⟨h, rfl⟩
  ·rename_i d hd
   have hn := h.now hs
   have hpre : PPre m (lastFrame c d) ((c.deferred, decide (c.kind = 2)) :: setTop O (onOut c)) :=
    ⟨by rw [hn]; rfl, fun _ => by simp, fun _ => rfl, rfl⟩
   obtain ⟨g1, g2, g3⟩ := hg _ _ _ hpre hs
   change (inner m (lastFrame c d)).2.panicking = decide (c.kind = 2) at g2
   generalize inner m (lastFrame c d) = r at *
   obtain ⟨m', i⟩ := r
   dsimp only at g1 g2 g3 ⊢
   split
   ·rename_i hsp
    exact ⟨⟨g1, h.k, fun hh => (by rw [hsp] at hh; cases hh), h.out, h.dfr⟩, rfl⟩
   ·rename_i hsp
    have hsp' : m'.spent = false := by simpa using hsp
    obtain ⟨k1, k2⟩ := g3 hsp'
    obtain ⟨e1, e2⟩ := lastEnd_p (c := dropL c) (i := i) k1 h.k g2
    have hin : PIn m' (lastEnd (dropL c) i) O := by
     refine ⟨g1, e1, fun _ => ?_, h.out, h.dfr⟩
     rw [k2, e2]
     rfl
    have ih := dfr_p hg (O := O) k m' (lastEnd (dropL c) i) hsp' hin
    exact ⟨ih.1, ih.2⟩
theorem call_p {p : Pg} {fuel : Int} : ∀ d : Nat, PGood (call p fuel d)
 | 0 => fun m c O h hs => ⟨by show (pds m.trace).2 = true; rw [h.ps], rfl, fun hh => by cases hh⟩
 | d + 1 => fun m c O h hs => by
  have hg : PGood (call p fuel d) := call_p d
  have hb : PIn (begin_ m c) { c with kind := 1 } O := by
   have h1 : pds (begin_ m c).trace = ((c.deferred, false) :: setTop O c.panicking, true) := by
    show pds (m.trace ++ [_]) = _
    rw [pds_snoc, h.ps]
    unfold pd
    cases c.deferred <;> rfl
   refine ⟨by rw [h1], .inl rfl, fun _ => ?_, h.out, h.dfr⟩
   rw [h1]
   unfold onOut
   simp [h.new]
  have hsb : (begin_ m c).spent = false := hs
  have g1 := body_p hg (b := p.getD c.f.toNat []) (fuel := fuel) (O := O) (fuel.toNat + 1) _ _ 0 hsb hb (fun _ => rfl)
  show (pds (afterB (call p fuel d) (body (call p fuel d) (p.getD c.f.toNat []) fuel (fuel.toNat + 1) (begin_ m c) { c with kind := 1 } 0)).1.trace).2 = true ∧ (afterB (call p fuel d) (body (call p fuel d) (p.getD c.f.toNat []) fuel (fuel.toNat + 1) (begin_ m c) { c with kind := 1 } 0)).2.panicking = c.panicking ∧
   ((afterB (call p fuel d) (body (call p fuel d) (p.getD c.f.toNat []) fuel (fuel.toNat + 1) (begin_ m c) { c with kind := 1 } 0)).1.spent = false → K3 (afterB (call p fuel d) (body (call p fuel d) (p.getD c.f.toNat []) fuel (fuel.toNat + 1) (begin_ m c) { c with kind := 1 } 0)).2 ∧
    pds (afterB (call p fuel d) (body (call p fuel d) (p.getD c.f.toNat []) fuel (fuel.toNat + 1) (begin_ m c) { c with kind := 1 } 0)).1.trace = (setTop O (endOn (afterB (call p fuel d) (body (call p fuel d) (p.getD c.f.toNat []) fuel (fuel.toNat + 1) (begin_ m c) { c with kind := 1 } 0)).2), true))
  generalize body (call p fuel d) (p.getD c.f.toNat []) fuel (fuel.toNat + 1) (begin_ m c) { c with kind := 1 } 0 = r at *
  obtain ⟨g1, gp⟩ := g1
  change r.2.panicking = c.panicking at gp
  unfold afterB
  split
  ·rename_i hsp
   exact ⟨g1.ok, gp, fun hh => by rw [hsp] at hh; cases hh⟩
  ·rename_i hsp
   have g2 := dfr_p hg (O := O) r.2.defers.length r.1 r.2 (by simpa using hsp) g1
   generalize dfr (call p fuel d) r.2.defers.length r.1 r.2 = q at *
   obtain ⟨g2, gq⟩ := g2
   unfold closeC
   split
   ·rename_i hsq
    exact ⟨g2.ok, gq.trans gp, fun hh => by rw [hsq] at hh; cases hh⟩
   ·rename_i hsq
    have hn := g2.now (by simpa using hsq)
    have hto : q.2.deferred = false → topOn (setTop O (onOut q.2)) = false := fun hd => by
     have hpf : q.2.panicking = false := by
      cases hpp : q.2.panicking with
      | false => rfl
      | true => have := g2.dfr hpp; rw [hd] at this; cases this
     have : onOut q.2 = false := by unfold onOut; rw [hpf]; rfl
     rw [this, topOn_false]
    have hdo : (q.2.deferred || !topOn (setTop O (onOut q.2))) = true := by
     cases hd : q.2.deferred with
     | true => rfl
     | false => rw [hto hd]; rfl
    have h1 : pds (finish q.1 q.2).trace = (setTop O (endOn q.2), true) := by
     unfold finish endOn
     rcases g2.k with h | h | h
     ·rw [if_pos h, if_neg (by omega), if_neg (by omega)]
      show pds (q.1.trace ++ [_]) = _
      rw [pds_snoc, hn]
      rfl
     ·rw [if_neg (by omega), if_pos h, if_pos h]
      show pds (q.1.trace ++ [_]) = _
      rw [pds_snoc, hn]
      unfold pd
      rw [if_neg (by simp)]
      dsimp only
      rw [if_neg (by decide), if_neg (by decide), if_neg (by decide), if_pos rfl, setTop_setTop, hdo, h]
      rfl
     ·rw [if_neg (by omega), if_neg (by omega), if_pos h, if_neg (by omega), if_pos h]
      show pds (q.1.trace ++ [_]) = _
      rw [pds_snoc, hn]
      unfold pd
      rw [if_neg (by simp)]
      dsimp only
      rw [if_neg (by decide), if_neg (by decide), if_neg (by decide), if_neg (by decide), if_pos rfl, setTop_setTop, hdo]
      rfl
    exact ⟨by show (pds (finish q.1 q.2).trace).2 = true; rw [h1], gq.trans gp, fun _ => ⟨g2.k, h1⟩⟩
theorem whole_p (p : Pg) (fuel f arg : Int) : (pds (whole p fuel f arg).1.trace).2 = true :=
 (call_p 8 start (newFrame f 1 arg) [] ⟨rfl, fun h => (by cases h), fun h => (by cases h), rfl⟩ rfl).1
end Go.Proofs.Ytgcjlkdahlfjlaa.PL

/- What a trace tells of panics: the stack of calls that are open with their panics, all panics with what becomes of them, and what is recovered. -/
namespace Go.Proofs.Ytgcjlkdahlfjlaa.PL

structure PF where
 f : Int
 v : Int
 fate : Int
 call : Nat
 depth : Nat
 by_ : List Int
 rep : Int
 bef : Int
structure Ent where
 no : Nat
 dfr : Bool
 on : Option Nat
structure MS where
 stk : List Ent
 next : Nat
 pan : List PF
 rcv : List (Int × Int)
def upd (l : List PF) (k : Nat) (g : PF → PF) : List PF := match l[k]? with
 | some x => l.set k (g x)
 | none => l
theorem upd_len (l : List PF) (k : Nat) (g : PF → PF) : (upd l k g).length = l.length := by unfold upd; split <;> simp
theorem upd_some {l : List PF} {k : Nat} {x : PF} (g : PF → PF) (h : l[k]? = some x) : upd l k g = l.set k (g x) := by unfold upd; rw [h]
theorem upd_at {l : List PF} {k i : Nat} {x : PF} {g : PF → PF} (h : l[i]? = some x) : (upd l k g)[i]? = some (if k = i then g x else x) := by
 unfold upd
 split
 ·rename_i y hy
  by_cases hk : k = i
  ·subst hk
   rw [h] at hy
   cases hy
   rw [List.getElem?_set_self (List.getElem?_eq_some_iff.1 h).1, if_pos rfl]
  ·rw [List.getElem?_set_ne hk, h, if_neg hk]
 ·rename_i hy
  by_cases hk : k = i
  ·subst hk
   rw [h] at hy
   cases hy
  ·rw [h, if_neg hk]
def setFate (x : PF) (n : Int) : PF := { x with fate := n }
def addBy (x : PF) (f : Int) : PF := { x with by_ := x.by_ ++ [f] }
def setRep (x : PF) (k : Int) : PF := { x with rep := k }
def setBef (x : PF) (k : Int) : PF := { x with bef := k }
def onE (O : List Ent) : Option Nat := match O with
 | [] => none
 | a :: _ => a.on
def putE (O : List Ent) (x : Option Nat) : List Ent := match O with
 | [] => []
 | a :: S => ⟨a.no, a.dfr, x⟩ :: S
def fatesOf (pan : List PF) (q : Option Nat) (n : Int) : List PF := match q with
 | some q => upd pan q (fun x => setFate x n)
 | none => pan
def replOf (pan : List PF) (q : Option Nat) (k : Nat) : List PF := match q with
 | some q => upd (upd (upd pan q (fun x => setFate x 2)) q (fun x => setRep x k)) k (fun x => setBef x q)
 | none => pan
instance (O : List Ent) : Decidable (O = []) := match O with
 | [] => .isTrue rfl
 | _ :: _ => .isFalse (by simp)
def md (s : MS) (e : Tr) : MS :=
 if e.1 = 1 ∨ e.1 = 3 then ⟨⟨s.next, e.1 == 3, none⟩ :: s.stk, s.next + 1, s.pan, s.rcv⟩
 else match s.stk with
  | [] => s
  | a :: O =>
   if e.1 = 5 then ⟨⟨a.no, a.dfr, some s.pan.length⟩ :: O, s.next, s.pan ++ [⟨e.2.1, e.2.2, 0, a.no, O.length + 1, [], -1, -1⟩], s.rcv⟩
   else if e.1 = 6 then ⟨a :: putE O none, s.next, fatesOf s.pan (onE O) 1, match onE O with
    | some k => s.rcv ++ [((k : Int), e.2.1)]
    | none => s.rcv⟩
   else if e.1 = 7 then ⟨O, s.next, s.pan, s.rcv⟩
   else if e.1 = 8 then (match a.on with
    | none => s
    | some k => ⟨putE O (some k), s.next, if O = [] then upd (upd s.pan k (fun x => addBy x e.2.1)) k (fun x => setFate x 3) else replOf (upd s.pan k (fun x => addBy x e.2.1)) (onE O) k, s.rcv⟩)
   else if e.1 = 9 then ⟨putE O none, s.next, fatesOf s.pan (onE O) 4, s.rcv⟩
   else s
def ms0 : MS := ⟨[], 0, [], []⟩
def mds (l : List Tr) : MS := l.foldl md ms0
theorem mds_snoc (l : List Tr) (e : Tr) : mds (l ++ [e]) = md (mds l) e := by simp [mds]
theorem mds_take {l : List Tr} {j : Nat} {e : Tr} (h : l[j]? = some e) : mds (l.take (j + 1)) = md (mds (l.take j)) e := by
 rw [List.take_add_one, h]
 exact mds_snoc _ _
end Go.Proofs.Ytgcjlkdahlfjlaa.PL

/- The two readings of a trace's panics agree: in a run all is in order; numbers of panics and of calls are those that are there. -/
namespace Go.Proofs.Ytgcjlkdahlfjlaa.PL

def eb (a : Ent) : Bool × Bool := (a.dfr, a.on.isSome)
def lnk (s : MS) : PStk := s.stk.map eb
theorem putE_eb (O : List Ent) (x : Option Nat) : (putE O x).map eb = setTop (O.map eb) x.isSome := by cases O <;> rfl
theorem topOn_eb (O : List Ent) : topOn (O.map eb) = (onE O).isSome := by cases O <;> rfl
theorem kinds_or (k : Int) : (k = 1 ∨ k = 3) ∨ (¬ (k = 1 ∨ k = 3) ∧ (k = 5 ∨ k = 6 ∨ k = 7 ∨ k = 8 ∨ k = 9 ∨ (k ≠ 5 ∧ k ≠ 6 ∧ k ≠ 7 ∧ k ≠ 8 ∧ k ≠ 9))) := by omega
theorem md_beg {s : MS} {e : Tr} (h : e.1 = 1 ∨ e.1 = 3) : md s e = ⟨⟨s.next, e.1 == 3, none⟩ :: s.stk, s.next + 1, s.pan, s.rcv⟩ := by unfold md; rw [if_pos h]
theorem md_5 {s : MS} {e : Tr} {a : Ent} {O : List Ent} (hs : s.stk = a :: O) (h : e.1 = 5) : md s e = ⟨⟨a.no, a.dfr, some s.pan.length⟩ :: O, s.next, s.pan ++ [⟨e.2.1, e.2.2, 0, a.no, O.length + 1, [], -1, -1⟩], s.rcv⟩ := by
 unfold md
 rw [if_neg (by omega), hs]
 dsimp only
 rw [if_pos h]
theorem md_6 {s : MS} {e : Tr} {a b : Ent} {S : List Ent} {k : Nat} (hs : s.stk = a :: b :: S) (hb : b.on = some k) (h : e.1 = 6) : md s e = ⟨a :: ⟨b.no, b.dfr, none⟩ :: S, s.next, upd s.pan k (fun x => setFate x 1), s.rcv ++ [((k : Int), e.2.1)]⟩ := by
 unfold md
 rw [if_neg (by omega), hs]
 dsimp only [onE, putE]
 rw [if_neg (by omega), if_pos h, hb]
 rfl
theorem md_7 {s : MS} {e : Tr} {a : Ent} {O : List Ent} (hs : s.stk = a :: O) (h : e.1 = 7) : md s e = ⟨O, s.next, s.pan, s.rcv⟩ := by
 unfold md
 rw [if_neg (by omega), hs]
 dsimp only
 rw [if_neg (by omega), if_neg (by omega), if_pos h]
theorem md_8 {s : MS} {e : Tr} {a : Ent} {O : List Ent} {k : Nat} (hs : s.stk = a :: O) (ha : a.on = some k) (h : e.1 = 8) : md s e = ⟨putE O (some k), s.next, if O = [] then upd (upd s.pan k (fun x => addBy x e.2.1)) k (fun x => setFate x 3) else replOf (upd s.pan k (fun x => addBy x e.2.1)) (onE O) k, s.rcv⟩ := by
 unfold md
 rw [if_neg (by omega), hs]
 dsimp only
 rw [if_neg (by omega), if_neg (by omega), if_neg (by omega), if_pos h, ha]
theorem md_9 {s : MS} {e : Tr} {a : Ent} {O : List Ent} (hs : s.stk = a :: O) (h : e.1 = 9) : md s e = ⟨putE O none, s.next, fatesOf s.pan (onE O) 4, s.rcv⟩ := by
 unfold md
 rw [if_neg (by omega), hs]
 dsimp only
 rw [if_neg (by omega), if_neg (by omega), if_neg (by omega), if_neg (by omega), if_pos h]
theorem md_else {s : MS} {e : Tr} (h0 : ¬ (e.1 = 1 ∨ e.1 = 3)) (h : e.1 ≠ 5 ∧ e.1 ≠ 6 ∧ e.1 ≠ 7 ∧ e.1 ≠ 8 ∧ e.1 ≠ 9) : md s e = s := by
 unfold md
 rw [if_neg h0]
 split
 ·rfl
 ·rw [if_neg h.1, if_neg h.2.1, if_neg h.2.2.1, if_neg h.2.2.2.1, if_neg h.2.2.2.2]
structure InOrd (s : MS) (e : Tr) : Prop where
 top : ¬ (e.1 = 1 ∨ e.1 = 3) → ∃ a O, s.stk = a :: O
 rec6 : e.1 = 6 → ∃ a b S k, s.stk = a :: b :: S ∧ b.on = some k
 unw : e.1 = 8 → ∃ a O k, s.stk = a :: O ∧ a.on = some k ∧ (a.dfr = true ∨ onE O = none)
 exi : e.1 = 9 → ∃ a O, s.stk = a :: O ∧ (a.dfr = true ∨ onE O = none)
theorem in_order {s : MS} {e : Tr} (h : (pd (lnk s, true) e).2 = true) : InOrd s e := by
 unfold pd at h
 rcases kinds_or e.1 with hb | ⟨hb, hk⟩
 ·exact ⟨fun h => absurd hb h, fun h => by omega, fun h => by omega, fun h => by omega⟩
 ·rw [if_neg hb] at h
  cases hs : s.stk with
  | nil =>
   have hl : lnk s = [] := by unfold lnk; rw [hs]; rfl
   rw [hl] at h
   simp at h
  | cons a O =>
   have hl : lnk s = (a.dfr, a.on.isSome) :: O.map eb := by unfold lnk; rw [hs]; rfl
   rw [hl] at h
   dsimp only at h
   refine ⟨fun _ => ⟨a, O, hs⟩, fun h6 => ?_, fun h8 => ?_, fun h9 => ?_⟩
   ·rw [if_neg (by omega), if_pos h6] at h
    simp only [Bool.true_and] at h
    rw [topOn_eb] at h
    cases O with
    | nil => simp [onE] at h
    | cons b S =>
     obtain ⟨k, hk⟩ := Option.isSome_iff_exists.1 h
     exact ⟨a, b, S, k, hs, hk⟩
   ·rw [if_neg (by omega), if_neg (by omega), if_neg (by omega), if_pos h8] at h
    simp only [Bool.true_and, Bool.and_eq_true, Bool.or_eq_true, Bool.not_eq_true'] at h
    obtain ⟨k, hk⟩ := Option.isSome_iff_exists.1 h.1
    refine ⟨a, O, k, hs, hk, ?_⟩
    rcases h.2 with h2 | h2
    ·exact .inl h2
    ·rw [topOn_eb] at h2
     exact .inr (by simpa using h2)
   ·rw [if_neg (by omega), if_neg (by omega), if_neg (by omega), if_neg (by omega), if_pos h9] at h
    simp only [Bool.true_and, Bool.or_eq_true, Bool.not_eq_true'] at h
    refine ⟨a, O, hs, ?_⟩
    rcases h with h2 | h2
    ·exact .inl h2
    ·rw [topOn_eb] at h2
     exact .inr (by simpa using h2)
theorem md_lnk {s : MS} {e : Tr} (h : (pd (lnk s, true) e).2 = true) : pd (lnk s, true) e = (lnk (md s e), true) := by
 have ho := in_order h
 refine Prod.ext ?_ h
 show (pd (lnk s, true) e).1 = lnk (md s e)
 rcases kinds_or e.1 with hb | ⟨hb, hk⟩
 ·rw [md_beg hb]
  unfold pd
  rw [if_pos hb]
  rfl
 ·obtain ⟨a, O, hs⟩ := ho.top hb
  have hl : lnk s = (a.dfr, a.on.isSome) :: O.map eb := by unfold lnk; rw [hs]; rfl
  unfold pd
  rw [if_neg hb, hl]
  dsimp only
  rcases hk with h5 | h6 | h7 | h8 | h9 | he
  ·rw [if_pos h5, md_5 hs h5]
   rfl
  ·obtain ⟨a', b, S, k, hs', hbk⟩ := ho.rec6 h6
   rw [if_neg (by omega), if_pos h6, md_6 hs' hbk h6]
   rw [hs] at hs'
   obtain ⟨rfl, rfl⟩ := List.cons.inj hs'
   rfl
  ·rw [if_neg (by omega), if_neg (by omega), if_pos h7, md_7 hs h7]
   rfl
  ·obtain ⟨a', O', k, hs', hak, _⟩ := ho.unw h8
   rw [hs] at hs'
   obtain ⟨rfl, rfl⟩ := List.cons.inj hs'
   rw [if_neg (by omega), if_neg (by omega), if_neg (by omega), if_pos h8, md_8 hs hak h8]
   exact (putE_eb O (some k)).symm
  ·rw [if_neg (by omega), if_neg (by omega), if_neg (by omega), if_neg (by omega), if_pos h9, md_9 hs h9]
   exact (putE_eb O none).symm
  ·rw [if_neg he.1, if_neg he.2.1, if_neg he.2.2.1, if_neg he.2.2.2.1, if_neg he.2.2.2.2, md_else hb he]
   exact hl.symm
theorem mds_lnk {t : List Tr} (h : (pds t).2 = true) : ∀ j, j ≤ t.length → pds (t.take j) = (lnk (mds (t.take j)), true)
 | 0, _ => rfl
 | j + 1, hj => by
  have ih := mds_lnk h j (by omega)
  obtain ⟨e, he⟩ : ∃ e, t[j]? = some e := ⟨_, List.getElem?_eq_getElem (by omega)⟩
  have h1 := pds_take he
  have h2 := pds_ok h (j + 1)
  rw [h1, ih] at h2
  rw [h1, ih, mds_take he]
  exact md_lnk h2
theorem mds_ord {t : List Tr} (h : (pds t).2 = true) {j : Nat} {e : Tr} (he : t[j]? = some e) : InOrd (mds (t.take j)) e := by
 have hj := (List.getElem?_eq_some_iff.1 he).1
 have h1 := pds_take he
 have h2 := pds_ok h (j + 1)
 rw [h1, mds_lnk h j (by omega)] at h2
 exact in_order h2
structure Val (s : MS) : Prop where
 on : ∀ a ∈ s.stk, ∀ k, a.on = some k → k < s.pan.length
 no : ∀ a ∈ s.stk, a.no < s.next
 dec : s.stk.Pairwise (fun a b => b.no < a.no)
 call : ∀ x ∈ s.pan, x.call < s.next
theorem fatesOf_len (pan : List PF) (q : Option Nat) (n : Int) : (fatesOf pan q n).length = pan.length := by unfold fatesOf; split <;> simp [upd_len]
theorem replOf_len (pan : List PF) (q : Option Nat) (k : Nat) : (replOf pan q k).length = pan.length := by unfold replOf; split <;> simp [upd_len]
theorem upd_mem {l : List PF} {k : Nat} {g : PF → PF} {P : PF → Prop} (h : ∀ x ∈ l, P x) (hg : ∀ x, P x → P (g x)) : ∀ x ∈ upd l k g, P x := by
 intro x hx
 unfold upd at hx
 split at hx
 ·rename_i y hy
  rcases List.mem_or_eq_of_mem_set hx with h1 | h1
  ·exact h x h1
  ·subst h1
   exact hg y (h y (List.mem_of_getElem? hy))
 ·exact h x hx
theorem fatesOf_mem {l : List PF} {q : Option Nat} {n : Int} {P : PF → Prop} (h : ∀ x ∈ l, P x) (h1 : ∀ x n, P x → P (setFate x n)) : ∀ x ∈ fatesOf l q n, P x := by
 unfold fatesOf
 split
 ·exact upd_mem h (fun x hx => h1 x n hx)
 ·exact h
theorem replOf_mem {l : List PF} {q : Option Nat} {k : Nat} {P : PF → Prop} (h : ∀ x ∈ l, P x) (h1 : ∀ x n, P x → P (setFate x n)) (h2 : ∀ x n, P x → P (setRep x n)) (h3 : ∀ x n, P x → P (setBef x n)) : ∀ x ∈ replOf l q k, P x := by
 unfold replOf
 split
 ·exact upd_mem (upd_mem (upd_mem h (fun x hx => h1 x _ hx)) (fun x hx => h2 x _ hx)) (fun x hx => h3 x _ hx)
 ·exact h
theorem mem_putE {O : List Ent} {x : Option Nat} {a : Ent} (h : a ∈ putE O x) : a ∈ O ∨ (a.on = x ∧ ∃ b ∈ O, a.no = b.no) := by
 cases O with
 | nil => cases h
 | cons b S =>
  rcases List.mem_cons.1 h with h1 | h1
  ·subst h1
   exact .inr ⟨rfl, b, List.mem_cons_self, rfl⟩
  ·exact .inl (List.mem_cons_of_mem _ h1)
theorem dec_putE {O : List Ent} {x : Option Nat} (h : O.Pairwise (fun a b => b.no < a.no)) : (putE O x).Pairwise (fun a b => b.no < a.no) := by
 cases O with
 | nil => exact h
 | cons b S =>
  rw [List.pairwise_cons] at h
  exact List.pairwise_cons.2 ⟨fun a ha => h.1 a ha, h.2⟩
theorem val_putE {s : MS} {O : List Ent} {pan : List PF} {r : List (Int × Int)} {x : Option Nat} (hO : ∀ a ∈ O, a ∈ s.stk) (hd : O.Pairwise (fun a b => b.no < a.no)) (h : Val s) (hp : pan.length = s.pan.length) (hc : ∀ y ∈ pan, y.call < s.next) (hx : ∀ k, x = some k → k < s.pan.length) : Val ⟨putE O x, s.next, pan, r⟩ := by
 refine ⟨fun a ha k hk => ?_, fun a ha => ?_, dec_putE hd, hc⟩
 ·show k < pan.length
  rw [hp]
  rcases mem_putE ha with h1 | ⟨h1, _⟩
  ·exact h.on a (hO a h1) k hk
  ·exact hx k (h1.symm.trans hk)
 ·show a.no < s.next
  rcases mem_putE ha with h1 | ⟨_, b, hb, e⟩
  ·exact h.no a (hO a h1)
  ·rw [e]
   exact h.no b (hO b hb)
theorem val_md {s : MS} {e : Tr} (h : Val s) (ho : InOrd s e) : Val (md s e) := by
 rcases kinds_or e.1 with hb | ⟨hb, hk⟩
 ·rw [md_beg hb]
  refine ⟨fun a ha k hk => ?_, fun a ha => ?_, ?_, fun x hx => Nat.lt_succ_of_lt (h.call x hx)⟩
  ·rcases List.mem_cons.1 ha with rfl | ha
   ·cases hk
   ·exact h.on a ha k hk
  ·rcases List.mem_cons.1 ha with rfl | ha
   ·exact Nat.lt_succ_self _
   ·exact Nat.lt_succ_of_lt (h.no a ha)
  ·exact List.pairwise_cons.2 ⟨fun a ha => h.no a ha, h.dec⟩
 ·obtain ⟨a, O, hs⟩ := ho.top hb
  have hd := h.dec
  rw [hs, List.pairwise_cons] at hd
  have hO : ∀ b ∈ O, b ∈ s.stk := fun b hb => by rw [hs]; exact List.mem_cons_of_mem _ hb
  have ha : a ∈ s.stk := by rw [hs]; exact List.mem_cons_self
  rcases hk with h5 | h6 | h7 | h8 | h9 | he
  ·rw [md_5 hs h5]
   refine ⟨fun b hb k hk => ?_, fun b hb => ?_, List.pairwise_cons.2 ⟨fun b hb => hd.1 b hb, hd.2⟩, fun x hx => ?_⟩
   ·show k < (s.pan ++ [_]).length
    rw [List.length_append, List.length_singleton]
    rcases List.mem_cons.1 hb with rfl | hb
    ·cases hk
     omega
    ·have := h.on b (hO b hb) k hk
     omega
   ·rcases List.mem_cons.1 hb with rfl | hb
    ·exact h.no a ha
    ·exact h.no b (hO b hb)
   ·rcases List.mem_append.1 hx with hx | hx
    ·exact h.call x hx
    ·obtain rfl := List.mem_singleton.1 hx
     exact h.no a ha
  ·obtain ⟨a', b, S, k, hs', hbk⟩ := ho.rec6 h6
   rw [hs] at hs'
   obtain ⟨rfl, rfl⟩ := List.cons.inj hs'
   rw [md_6 hs hbk h6]
   rw [List.pairwise_cons] at hd
   refine ⟨fun c hc q hq => ?_, fun c hc => ?_, ?_, upd_mem h.call (fun x hx => hx)⟩
   ·show q < (upd _ _ _).length
    rw [upd_len]
    rcases List.mem_cons.1 hc with rfl | hc
    ·exact h.on _ ha q hq
    ·rcases List.mem_cons.1 hc with rfl | hc
     ·cases hq
     ·exact h.on c (hO c (List.mem_cons_of_mem _ hc)) q hq
   ·rcases List.mem_cons.1 hc with rfl | hc
    ·exact h.no _ ha
    ·rcases List.mem_cons.1 hc with rfl | hc
     ·exact h.no b (hO b List.mem_cons_self)
     ·exact h.no c (hO c (List.mem_cons_of_mem _ hc))
   ·refine List.pairwise_cons.2 ⟨fun c hc => ?_, List.pairwise_cons.2 ⟨fun c hc => hd.2.1 c hc, hd.2.2⟩⟩
    rcases List.mem_cons.1 hc with rfl | hc
    ·exact hd.1 b List.mem_cons_self
    ·exact hd.1 c (List.mem_cons_of_mem _ hc)
  ·rw [md_7 hs h7]
   exact ⟨fun b hb => h.on b (hO b hb), fun b hb => h.no b (hO b hb), hd.2, h.call⟩
  ·obtain ⟨a', O', k, hs', hak, _⟩ := ho.unw h8
   rw [hs] at hs'
   obtain ⟨rfl, rfl⟩ := List.cons.inj hs'
   rw [md_8 hs hak h8]
   have hb1 : ∀ y ∈ upd s.pan k (fun x => addBy x e.2.1), y.call < s.next := upd_mem h.call (fun x hx => hx)
   refine val_putE hO hd.2 h ?_ ?_ (fun q hq => by cases hq; exact h.on a ha k hak)
   ·split <;> simp [upd_len, replOf_len]
   ·split
    ·exact upd_mem hb1 (fun x hx => hx)
    ·exact replOf_mem hb1 (fun x n hx => hx) (fun x n hx => hx) (fun x n hx => hx)
  ·rw [md_9 hs h9]
   exact val_putE hO hd.2 h (fatesOf_len _ _ _) (fatesOf_mem h.call (fun x n hx => hx)) (fun q hq => by cases hq)
  ·rw [md_else hb he]
   exact h
theorem mds_val {t : List Tr} (h : (pds t).2 = true) : ∀ j, j ≤ t.length → Val (mds (t.take j))
 | 0, _ => ⟨fun a ha => by simp [mds, ms0] at ha, fun a ha => by simp [mds, ms0] at ha, by simp [mds, ms0], fun x hx => by simp [mds, ms0] at hx⟩
 | j + 1, hj => by
  obtain ⟨e, he⟩ : ∃ e, t[j]? = some e := ⟨_, List.getElem?_eq_getElem (by omega)⟩
  rw [mds_take he]
  exact val_md (mds_val h j (by omega)) (mds_ord h he)
structure Lens (s : MS) (j : Nat) : Prop where
 stk : s.stk.length ≤ j
 pan : s.pan.length ≤ j
 rcv : s.rcv.length ≤ j
 next : s.next ≤ j
 by_ : ∀ x ∈ s.pan, x.by_.length ≤ j
theorem putE_len (O : List Ent) (x : Option Nat) : (putE O x).length = O.length := by cases O <;> rfl
theorem lens_md {s : MS} {e : Tr} {j : Nat} (h : Lens s j) (ho : InOrd s e) : Lens (md s e) (j + 1) := by
 obtain ⟨l1, l2, l3, l4, l5⟩ := h
 have l5' : ∀ x ∈ s.pan, x.by_.length ≤ j + 1 := fun x hx => Nat.le_succ_of_le (l5 x hx)
 rcases kinds_or e.1 with hb | ⟨hb, hk⟩
 ·rw [md_beg hb]
  exact ⟨by simpa using l1, by show s.pan.length ≤ _; omega, by show s.rcv.length ≤ _; omega, by show s.next + 1 ≤ _; omega, l5'⟩
 ·obtain ⟨a, O, hs⟩ := ho.top hb
  rw [hs, List.length_cons] at l1
  rcases hk with h5 | h6 | h7 | h8 | h9 | he
  ·rw [md_5 hs h5]
   refine ⟨by show (_ :: O).length ≤ _; rw [List.length_cons]; omega, by show (s.pan ++ [_]).length ≤ _; rw [List.length_append, List.length_singleton]; omega, by show s.rcv.length ≤ _; omega, by show s.next ≤ _; omega, fun x hx => ?_⟩
   rcases List.mem_append.1 hx with hx | hx
   ·exact l5' x hx
   ·obtain rfl := List.mem_singleton.1 hx
    exact Nat.zero_le _
  ·obtain ⟨a', b, S, k, hs', hbk⟩ := ho.rec6 h6
   rw [hs] at hs'
   obtain ⟨rfl, rfl⟩ := List.cons.inj hs'
   rw [md_6 hs hbk h6]
   exact ⟨by show (_ :: _ :: S).length ≤ _; simp at l1 ⊢; omega, by show (upd _ _ _).length ≤ _; rw [upd_len]; omega, by show (s.rcv ++ [_]).length ≤ _; rw [List.length_append, List.length_singleton]; omega, by show s.next ≤ _; omega, upd_mem l5' (fun x hx => hx)⟩
  ·rw [md_7 hs h7]
   exact ⟨by show O.length ≤ _; omega, by show s.pan.length ≤ _; omega, by show s.rcv.length ≤ _; omega, by show s.next ≤ _; omega, l5'⟩
  ·obtain ⟨a', O', k, hs', hak, _⟩ := ho.unw h8
   rw [hs] at hs'
   obtain ⟨rfl, rfl⟩ := List.cons.inj hs'
   rw [md_8 hs hak h8]
   have hb1 : ∀ y ∈ upd s.pan k (fun x => addBy x e.2.1), y.by_.length ≤ j + 1 := by
    intro y hy
    unfold upd at hy
    split at hy
    ·rename_i z hz
     rcases List.mem_or_eq_of_mem_set hy with h1 | h1
     ·exact l5' y h1
     ·subst h1
      show (z.by_ ++ [_]).length ≤ _
      have := l5 z (List.mem_of_getElem? hz)
      rw [List.length_append, List.length_singleton]
      omega
    ·exact l5' y hy
   refine ⟨by show (putE O _).length ≤ _; rw [putE_len]; omega, ?_, by show s.rcv.length ≤ _; omega, by show s.next ≤ _; omega, ?_⟩
   ·show (if O = [] then _ else _ : List PF).length ≤ _
    split <;> simp [upd_len, replOf_len] <;> omega
   ·show ∀ x ∈ (if O = [] then _ else _ : List PF), _
    split
    ·exact upd_mem hb1 (fun x hx => hx)
    ·exact replOf_mem hb1 (fun x n hx => hx) (fun x n hx => hx) (fun x n hx => hx)
  ·rw [md_9 hs h9]
   exact ⟨by show (putE O _).length ≤ _; rw [putE_len]; omega, by show (fatesOf _ _ _).length ≤ _; rw [fatesOf_len]; omega, by show s.rcv.length ≤ _; omega, by show s.next ≤ _; omega, fatesOf_mem l5' (fun x n hx => hx)⟩
  ·rw [md_else hb he]
   exact ⟨by rw [hs, List.length_cons]; omega, by omega, by omega, by omega, l5'⟩
theorem mds_lens {t : List Tr} (h : (pds t).2 = true) : ∀ j, j ≤ t.length → Lens (mds (t.take j)) j
 | 0, _ => ⟨Nat.le_refl _, Nat.le_refl _, Nat.le_refl _, Nat.le_refl _, fun x hx => by simp [mds, ms0] at hx⟩
 | j + 1, hj => by
  obtain ⟨e, he⟩ : ∃ e, t[j]? = some e := ⟨_, List.getElem?_eq_getElem (by omega)⟩
  rw [mds_take he]
  exact lens_md (mds_lens h j (by omega)) (mds_ord h he)
end Go.Proofs.Ytgcjlkdahlfjlaa.PL
