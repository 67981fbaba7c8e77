import Derived.Test.YtdmcgkcpclepfaaRunPlain
set_option linter.all false
namespace Go.Proofs.Ytdmcgkcpclepfaa.PL
structure M where
 spent : Bool
 shared : Int
 made : Int
 deep : Int
 trace : List Tr
 seen : List (Int × Int)
structure Fr where
 f : Int
 depth : Int
 r0 : Int
 r1 : Int
 r2 : Int
 r3 : Int
 defers : List (Int × Int)
 kind : Int
 value : Int
 leaving : Bool
 deferred : Bool
 panicking : Bool
 panic : Int
 recovered : Bool
 outer : Int
def reg (c : Fr) (i : Int) : Int := if i = 0 then c.r0 else if i = 1 then c.r1 else if i = 2 then c.r2 else c.r3
def setReg (c : Fr) (i : Int) (v : Int) : Fr :=
 if i = 0 then { c with r0 := v } else if i = 1 then { c with r1 := v } else if i = 2 then { c with r2 := v } else { c with r3 := v }
def tell (m : M) (k f v : Int) : M := { m with trace := m.trace ++ [(k, f, v)] }
def wrap16 (n : Int) : Int := (n + 163840) % 65536 - 32768
def simple (m : M) (c : Fr) (s : Tr) : M × Fr :=
 if s.1 = 1 then (m, setReg c s.2.1 s.2.2)
 else if s.1 = 2 then (m, setReg c s.2.1 (wrap16 (reg c s.2.1 + reg c s.2.2)))
 else if s.1 = 3 then (tell m 4 c.f (reg c s.2.1), c)
 else if s.1 = 9 then (m, if c.deferred then { c with outer := reg c s.2.1 } else c)
 else if s.1 = 12 then ({ m with shared := reg c s.2.1 }, c)
 else if s.1 = 13 then (m, setReg c s.2.1 m.shared)
 else if s.1 = 7 then
  (if c.panicking && !c.recovered then (tell m 6 c.f c.panic, setReg (setReg { c with recovered := true } s.2.1 c.panic) 3 1)
   else (m, setReg (setReg c s.2.1 0) 3 0))
 else (m, c)
def newFrame (f : Int) (depth : Int) (arg : Int) : Fr :=
 {f := f, depth := depth, r0 := arg, r1 := 0, r2 := 0, r3 := 0, defers := [], kind := 0, value := 0, leaving := false, deferred := false, panicking := false, panic := 0, recovered := false, outer := 0 }
def innerEnd (c i : Fr) (a : Int) : Fr × Int :=
 if i.kind = 1 then ({ c with r2 := i.r1 }, a + 1)
 else if i.kind = 2 then ({ c with kind := 2, value := i.value, leaving := c.leaving || i.leaving }, -1)
 else if i.kind = 3 then ({ c with kind := 3, leaving := c.leaving || i.leaving }, -1)
 else ({ c with leaving := c.leaving || i.leaving }, -1)
abbrev Call := M → Fr → M × Fr
def mkCall (r : M × Fr) (c : Fr) (a : Int) : M × Fr × Int := (r.1, innerEnd c r.2 a)
def mk (inner : Call) (m : M) (c : Fr) (a : Int) (s : Tr) : M × Fr × Int :=
 if s.1 = 4 then mkCall (inner m (newFrame s.2.1 (c.depth + 1) (reg c s.2.2))) c a
 else if s.1 = 5 then (tell m 2 s.2.1 (reg c s.2.2), { c with defers := c.defers ++ [(s.2.1, reg c s.2.2)] }, a + 1)
 else if s.1 = 6 then (tell m 5 c.f (reg c s.2.1), { c with kind := 2, value := reg c s.2.1 }, -1)
 else if s.1 = 8 then (m, { c with r1 := reg c s.2.1 }, -1)
 else if s.1 = 10 then (m, { c with kind := 3, leaving := true }, -1)
 else if s.1 = 11 then (m, c, if reg c s.2.2 > 0 then s.2.1 else a + 1)
 else ((simple m c s).1, (simple m c s).2, a + 1)
def count (m : M) (f a : Int) : M := { m with made := m.made + 1, seen := m.seen ++ [(f, a)] }
def body (inner : Call) (b : List Tr) (fuel : Int) : Nat → M → Fr → Int → M × Fr
 | 0, m, c, _ => (m, c)
 | n + 1, m, c, a =>
  if 0 ≤ a then
   match b[a.toNat]? with
   | none => (m, c)
   | some s =>
    if m.made = fuel then ({ m with spent := true }, c)
    else
     match mk inner (count m c.f a) c a s with
     | (m', c', a') => if m'.spent then (m', c') else body inner b fuel n m' c' a'
  else (m, c)
def lastFrame (c : Fr) (d : Int × Int) : Fr :=
 {newFrame d.1 (c.depth + 1) d.2 with deferred := true, outer := c.r1, panicking := decide (c.kind = 2), panic := if c.kind = 2 then c.value else 0 }
def lastEnd (c i : Fr) : Fr :=
 {c with r1 := i.outer, leaving := c.leaving || i.leaving, kind := if i.kind = 2 then 2 else if i.kind = 3 then 3 else if i.recovered then (if c.leaving || i.leaving then 3 else 1) else c.kind, value := if i.kind = 2 then i.value else c.value }
def dropL (c : Fr) : Fr := { c with defers := c.defers.dropLast }
def dfr (inner : Call) : Nat → M → Fr → M × Fr
 | 0, m, c => (m, c)
 | n + 1, m, c =>
  match c.defers.getLast? with
  | none => (m, c)
  | some d =>
   match inner m (lastFrame c d) with
   | (m', i) => if m'.spent then (m', dropL c) else dfr inner n m' (lastEnd (dropL c) i)
def finish (m : M) (c : Fr) : M :=
 if c.kind = 1 then tell m 7 c.f c.r1 else if c.kind = 2 then tell m 8 c.f c.value else if c.kind = 3 then tell m 9 c.f 0 else m
def begin_ (m : M) (c : Fr) : M := tell { m with deep := if m.deep > c.depth then m.deep else c.depth } (if c.deferred then 3 else 1) c.f c.r0
def closeC (q : M × Fr) : M × Fr := if q.1.spent then q else (finish q.1 q.2, q.2)
def afterB (inner : Call) (r : M × Fr) : M × Fr := if r.1.spent then r else closeC (dfr inner r.2.defers.length r.1 r.2)
def call (p : Pg) (fuel : Int) : Nat → Call
 | 0 => fun m c => ({ m with spent := true }, c)
 | d + 1 => fun m c => afterB (call p fuel d) (body (call p fuel d) (p.getD c.f.toNat []) fuel (fuel.toNat + 1) (begin_ m c) { c with kind := 1 } 0)
def start : M := { spent := false, shared := 0, made := 0, deep := 0, trace := [], seen := [] }
def whole (p : Pg) (fuel : Int) (f arg : Int) : M × Fr := call p fuel 8 start (newFrame f 1 arg)
structure Out where
 kind : Int
 value : Int
 trace : List Tr
 spent : Int
def told (r : M × Fr) : Out :=
 {kind := if r.1.spent then 4 else r.2.kind, value := if r.1.spent then 0 else if r.2.kind = 1 then r.2.r1 else if r.2.kind = 2 then r.2.value else 0, trace := r.1.trace, spent := r.1.made }
def run (p : Pg) (fuel : Int) (f arg : Int) : Out := told (whole p fuel f arg)
def N16 (n : Int) : Prop := -32768 ≤ n ∧ n ≤ 32767
structure WfM (fuel : Int) (K : Int) (m : M) : Prop where
 made0 : 0 ≤ m.made
 made1 : m.made ≤ fuel
 fuel1 : fuel ≤ 200
 shared : N16 m.shared
 deep0 : 0 ≤ m.deep
 deep1 : m.deep ≤ 8
 seen : (m.seen.length : Int) = m.made
 pot : (m.trace.length : Int) + 3 * (fuel - m.made) ≤ K
structure WfF (N : Int) (c : Fr) : Prop where
 f0 : 0 ≤ c.f
 f1 : c.f < N
 r0 : N16 c.r0
 r1 : N16 c.r1
 r2 : N16 c.r2
 r3 : N16 c.r3
 defers : ∀ d ∈ c.defers, 0 ≤ d.1 ∧ d.1 < N ∧ N16 d.2
 kind0 : 0 ≤ c.kind
 kind1 : c.kind ≤ 3
 value : N16 c.value
 panic : N16 c.panic
 outer : N16 c.outer
theorem wrap16_N (n : Int) : N16 (wrap16 n) := by unfold wrap16 N16; omega
theorem N16_0 : N16 0 := by unfold N16; omega
theorem N16_1 : N16 1 := by unfold N16; omega
theorem reg_N {N : Int} {c : Fr} (h : WfF N c) (i : Int) : N16 (reg c i) := by
 unfold reg
 split
 ·exact h.r0
 ·split
  ·exact h.r1
  ·split
   ·exact h.r2
   ·exact h.r3
theorem setReg_wf {N : Int} {c : Fr} (h : WfF N c) (i v : Int) (hv : N16 v) : WfF N (setReg c i v) := by
 unfold setReg
 split
 ·exact { h with r0 := hv }
 ·split
  ·exact { h with r1 := hv }
  ·split
   ·exact { h with r2 := hv }
   ·exact { h with r3 := hv }
theorem setReg_defers (c : Fr) (i v : Int) : (setReg c i v).defers = c.defers := by unfold setReg; split <;> (try split) <;> (try split) <;> rfl
theorem setReg_depth (c : Fr) (i v : Int) : (setReg c i v).depth = c.depth := by unfold setReg; split <;> (try split) <;> (try split) <;> rfl
theorem setReg_kind (c : Fr) (i v : Int) : (setReg c i v).kind = c.kind := by unfold setReg; split <;> (try split) <;> (try split) <;> rfl
theorem setReg_f (c : Fr) (i v : Int) : (setReg c i v).f = c.f := by unfold setReg; split <;> (try split) <;> (try split) <;> rfl
theorem setReg_same (c : Fr) (i v : Int) : (setReg c i v).depth = c.depth ∧ (setReg c i v).f = c.f ∧ (setReg c i v).deferred = c.deferred ∧ (setReg c i v).panicking = c.panicking ∧ (setReg c i v).panic = c.panic := by
 unfold setReg; split <;> (try split) <;> (try split) <;> exact ⟨rfl, rfl, rfl, rfl, rfl⟩
def Same (c c' : Fr) : Prop := c'.depth = c.depth ∧ c'.f = c.f ∧ c'.deferred = c.deferred ∧ c'.panicking = c.panicking ∧ c'.panic = c.panic
theorem Same.refl (c : Fr) : Same c c := ⟨rfl, rfl, rfl, rfl, rfl⟩
theorem Same.trans {a b c : Fr} (h : Same a b) (k : Same b c) : Same a c := ⟨k.1.trans h.1, k.2.1.trans h.2.1, k.2.2.1.trans h.2.2.1, k.2.2.2.1.trans h.2.2.2.1, k.2.2.2.2.trans h.2.2.2.2⟩
structure Inv (N fuel K : Int) (m : M) (c : Fr) : Prop where
 m : WfM fuel (K - 2 * (c.defers.length : Int)) m
 c : WfF N c
theorem WfM.up {fuel K K' : Int} {m : M} (h : WfM fuel K m) (hk : K ≤ K') : WfM fuel K' m := { h with pot := by have := h.pot; omega }
theorem tell_wf {fuel K K' : Int} {m : M} (h : WfM fuel K m) (k f v : Int) (hk : K + 1 ≤ K') : WfM fuel K' (tell m k f v) :=
 {h with pot := by have := h.pot; simp [tell]; omega }
theorem count_wf {fuel K : Int} {m : M} (h : WfM fuel K m) (f a : Int) (hlt : m.made ≠ fuel) : WfM fuel (K - 3) (count m f a) :=
 {h with
  made0 := by have := h.made0; simp [count]; omega
  made1 := by have := h.made1; simp [count]; omega
  seen := by have := h.seen; simp [count]; omega
  pot := by have := h.pot; simp [count]; omega }
def Good (N fuel D : Int) (inner : Call) : Prop := ∀ (K : Int) (m : M) (c : Fr), Inv N fuel K m c → c.depth = D →
 WfM fuel (K + 2) (inner m c).1 ∧ WfF N (inner m c).2 ∧ Same c (inner m c).2 ∧ m.made ≤ (inner m c).1.made
theorem newFrame_wf {N : Int} (f d arg : Int) (h0 : 0 ≤ f) (h1 : f < N) (ha : N16 arg) : WfF N (newFrame f d arg) :=
 {f0 := h0, f1 := h1, r0 := ha, r1 := N16_0, r2 := N16_0, r3 := N16_0, defers := fun d hd => by simp [newFrame] at hd, kind0 := by simp [newFrame], kind1 := by simp [newFrame],
  value := N16_0, panic := N16_0, outer := N16_0 }
theorem isReg_iff {r : Int} (h : isReg r = true) : 0 ≤ r ∧ r ≤ 3 := by unfold isReg at h; simpa using h
theorem isNum_iff {r : Int} (h : isNum r = true) : N16 r := by unfold isNum at h; simpa [N16] using h
theorem rec_wf {N : Int} {c : Fr} (h : WfF N c) (b : Bool) : WfF N { c with recovered := b } :=
 {f0 := h.f0, f1 := h.f1, r0 := h.r0, r1 := h.r1, r2 := h.r2, r3 := h.r3, defers := h.defers, kind0 := h.kind0, kind1 := h.kind1, value := h.value, panic := h.panic, outer := h.outer }
theorem simple_inv {N fuel K : Int} {m : M} {c : Fr} (h : Inv N fuel K m c) (s : Tr) (hs : s.1 = 1 → N16 s.2.2) :
  Inv N fuel (K + 1) (simple m c s).1 (simple m c s).2 ∧ Same c (simple m c s).2 ∧ (simple m c s).1.made = m.made := by
 have up : WfM fuel (K + 1 - 2 * (c.defers.length : Int)) m := h.m.up (by omega)
 unfold simple
 split
 ·rename_i e
  exact ⟨⟨by rw [setReg_defers]; exact up, setReg_wf h.c _ _ (hs e)⟩, setReg_same _ _ _, rfl⟩
 ·split
  ·exact ⟨⟨by rw [setReg_defers]; exact up, setReg_wf h.c _ _ (wrap16_N _)⟩, setReg_same _ _ _, rfl⟩
  ·split
   ·exact ⟨⟨tell_wf h.m _ _ _ (by show K - 2 * (c.defers.length : Int) + 1 ≤ K + 1 - 2 * (c.defers.length : Int); omega), h.c⟩, Same.refl _, rfl⟩
   ·split
    ·refine ⟨⟨?_, ?_⟩, ?_, rfl⟩
     ·split <;> exact up
     ·split
      ·exact { h.c with outer := reg_N h.c _ }
      ·exact h.c
     ·split <;> exact ⟨rfl, rfl, rfl, rfl, rfl⟩
    ·split
     ·exact ⟨⟨{ up with shared := reg_N h.c _ }, h.c⟩, Same.refl _, rfl⟩
     ·split
      ·exact ⟨⟨by rw [setReg_defers]; exact up, setReg_wf h.c _ _ h.m.shared⟩, setReg_same _ _ _, rfl⟩
      ·split
       ·split
        ·refine ⟨⟨?_, ?_⟩, ?_, rfl⟩
         ·show WfM fuel (K + 1 - 2 * ((setReg (setReg { c with recovered := true } s.2.1 c.panic) 3 1).defers.length : Int)) (tell m 6 c.f c.panic)
          rw [setReg_defers, setReg_defers]
          exact tell_wf h.m _ _ _ (by show K - 2 * (c.defers.length : Int) + 1 ≤ K + 1 - 2 * (c.defers.length : Int); omega)
         ·show WfF N (setReg (setReg { c with recovered := true } s.2.1 c.panic) 3 1)
          exact setReg_wf (setReg_wf (rec_wf h.c true) _ _ h.c.panic) _ _ N16_1
         ·exact Same.trans (Same.trans (b := { c with recovered := true }) ⟨rfl, rfl, rfl, rfl, rfl⟩ (setReg_same _ _ _)) (setReg_same _ _ _)
        ·refine ⟨⟨?_, ?_⟩, Same.trans (setReg_same _ _ _) (setReg_same _ _ _), rfl⟩
         ·show WfM fuel (K + 1 - 2 * ((setReg (setReg c s.2.1 0) 3 0).defers.length : Int)) m
          rw [setReg_defers, setReg_defers]
          exact up
         ·show WfF N (setReg (setReg c s.2.1 0) 3 0)
          exact setReg_wf (setReg_wf h.c _ _ N16_0) _ _ N16_0
       ·exact ⟨⟨up, h.c⟩, Same.refl _, rfl⟩
theorem innerEnd_inv {N fuel K : Int} {m' : M} {c i : Fr} (hm : WfM fuel (K - 2 * (c.defers.length : Int)) m') (hc : WfF N c) (hi : WfF N i) (a : Int) (ha : 0 ≤ a ∧ a ≤ 7) :
  Inv N fuel K m' (innerEnd c i a).1 ∧ Same c (innerEnd c i a).1 ∧ -1 ≤ (innerEnd c i a).2 ∧ (innerEnd c i a).2 ≤ 8 := by
 unfold innerEnd
 split
 ·exact ⟨⟨hm, { hc with r2 := hi.r1 }⟩, ⟨rfl, rfl, rfl, rfl, rfl⟩, by show -1 ≤ a + 1; omega, by show a + 1 ≤ 8; omega⟩
 ·split
  ·exact ⟨⟨hm, { hc with kind0 := (by show (0 : Int) ≤ 2; omega), kind1 := (by show (2 : Int) ≤ 3; omega), value := hi.value }⟩, ⟨rfl, rfl, rfl, rfl, rfl⟩, by show (-1 : Int) ≤ -1; omega, by show (-1 : Int) ≤ 8; omega⟩
  ·split
   ·exact ⟨⟨hm, { hc with kind0 := (by show (0 : Int) ≤ 3; omega), kind1 := (by show (3 : Int) ≤ 3; omega) }⟩, ⟨rfl, rfl, rfl, rfl, rfl⟩, by show (-1 : Int) ≤ -1; omega, by show (-1 : Int) ≤ 8; omega⟩
   ·exact ⟨⟨hm, { hc with }⟩, ⟨rfl, rfl, rfl, rfl, rfl⟩, by show (-1 : Int) ≤ -1; omega, by show (-1 : Int) ≤ 8; omega⟩
theorem mk_inv {n : Nat} {fuel K D : Int} {inner : Call} {m : M} {c : Fr} (hg : Good n fuel (D + 1) inner) (h : Inv n fuel (K - 3) m c) (hD : c.depth = D) (a : Int) (ha : 0 ≤ a ∧ a ≤ 7) (s : Tr) (hs : okStep n s = true) :
  Inv n fuel K (mk inner m c a s).1 (mk inner m c a s).2.1 ∧ Same c (mk inner m c a s).2.1 ∧ m.made ≤ (mk inner m c a s).1.made ∧ -1 ≤ (mk inner m c a s).2.2 ∧ (mk inner m c a s).2.2 ≤ 8 := by
 have up : WfM fuel (K - 2 * (c.defers.length : Int)) m := h.m.up (by omega)
 unfold mk
 split
 ·rename_i e
  have hf : 0 ≤ s.2.1 ∧ s.2.1 < n := by
   unfold okStep at hs
   simp only [e] at hs
   simp at hs
   exact ⟨hs.1.1, hs.1.2⟩
  have hi := hg (K - 3 - 2 * (c.defers.length : Int)) m (newFrame s.2.1 (c.depth + 1) (reg c s.2.2)) ⟨by show WfM fuel (K - 3 - 2 * (c.defers.length : Int) - 2 * ((([] : List (Int × Int)).length : Nat) : Int)) m; simpa using h.m, newFrame_wf _ _ _ hf.1 hf.2 (reg_N h.c _)⟩ (by show c.depth + 1 = D + 1; omega)
  obtain ⟨g1, g2, _, g4⟩ := hi
  obtain ⟨k1, k2, k3, k4⟩ := innerEnd_inv (K := K) (g1.up (by omega)) h.c g2 a ha
  exact ⟨k1, k2, g4, k3, k4⟩
 ·split
  ·rename_i e
   have hf : 0 ≤ s.2.1 ∧ s.2.1 < n := by
    unfold okStep at hs
    simp only [e] at hs
    simp at hs
    exact ⟨hs.1.1, hs.1.2⟩
   refine ⟨⟨?_, { h.c with defers := fun d hd => ?_ }⟩, ⟨rfl, rfl, rfl, rfl, rfl⟩, Int.le_refl _, by show -1 ≤ a + 1; omega, by show a + 1 ≤ 8; omega⟩
   ·exact tell_wf h.m _ _ _ (by simp; omega)
   ·simp only [List.mem_append, List.mem_singleton] at hd
    rcases hd with hd | rfl
    ·exact h.c.defers d hd
    ·exact ⟨hf.1, hf.2, reg_N h.c _⟩
  ·split
   ·exact ⟨⟨tell_wf h.m _ _ _ (by show _ ≤ K - 2 * (c.defers.length : Int); omega), { h.c with kind0 := (by show (0 : Int) ≤ 2; omega), kind1 := (by show (2 : Int) ≤ 3; omega), value := reg_N h.c _ }⟩, ⟨rfl, rfl, rfl, rfl, rfl⟩, Int.le_refl _, by show (-1 : Int) ≤ -1; omega, by show (-1 : Int) ≤ 8; omega⟩
   ·split
    ·exact ⟨⟨up, { h.c with r1 := reg_N h.c _ }⟩, ⟨rfl, rfl, rfl, rfl, rfl⟩, Int.le_refl _, by show (-1 : Int) ≤ -1; omega, by show (-1 : Int) ≤ 8; omega⟩
    ·split
     ·exact ⟨⟨up, { h.c with kind0 := (by show (0 : Int) ≤ 3; omega), kind1 := (by show (3 : Int) ≤ 3; omega) }⟩, ⟨rfl, rfl, rfl, rfl, rfl⟩, Int.le_refl _, by show (-1 : Int) ≤ -1; omega, by show (-1 : Int) ≤ 8; omega⟩
     ·split
      ·rename_i e
       have hp : 0 ≤ s.2.1 ∧ s.2.1 ≤ 8 := by
        unfold okStep at hs
        simp only [e] at hs
        simp at hs
        exact ⟨hs.1.1, hs.1.2⟩
       refine ⟨⟨up, h.c⟩, Same.refl _, Int.le_refl _, ?_, ?_⟩
       ·show -1 ≤ (if reg c s.2.2 > 0 then s.2.1 else a + 1); split <;> omega
       ·show (if reg c s.2.2 > 0 then s.2.1 else a + 1) ≤ 8; split <;> omega
      ·have hn : s.1 = 1 → N16 s.2.2 := by
        intro e
        unfold okStep at hs
        simp only [e] at hs
        simp at hs
        exact isNum_iff hs.2
       obtain ⟨k1, k2, k3⟩ := simple_inv h s hn
       exact ⟨⟨k1.m.up (by show K - 3 + 1 - 2 * ((simple m c s).2.defers.length : Int) ≤ K - 2 * ((simple m c s).2.defers.length : Int); omega), k1.c⟩, k2, by rw [k3]; exact Int.le_refl _, by show -1 ≤ a + 1; omega, by show a + 1 ≤ 8; omega⟩
theorem okProg_body {p : Pg} (h : okProg p = true) {i : Nat} {b : List Tr} (hb : p[i]? = some b) : b.length ≤ 8 ∧ ∀ (j : Nat) (s : Tr), b[j]? = some s → okStep p.length s = true := by
 unfold okProg at h
 rw [Bool.and_eq_true, List.all_eq_true] at h
 have h1 := h.2 b (List.mem_of_getElem? hb)
 unfold okBody at h1
 rw [Bool.and_eq_true, decide_eq_true_eq, List.all_eq_true] at h1
 exact ⟨h1.1, fun j s hs => h1.2 s (List.mem_of_getElem? hs)⟩
theorem body_inv {n : Nat} {fuel D : Int} {inner : Call} (hg : Good n fuel (D + 1) inner) {b : List Tr} (hb8 : b.length ≤ 8) (hb : ∀ (j : Nat) (s : Tr), b[j]? = some s → okStep n s = true) :
  ∀ (k : Nat) (K : Int) (m : M) (c : Fr) (a : Int), Inv n fuel K m c → c.depth = D → Inv n fuel K (body inner b fuel k m c a).1 (body inner b fuel k m c a).2 ∧ Same c (body inner b fuel k m c a).2 ∧ m.made ≤ (body inner b fuel k m c a).1.made
 | 0, K, m, c, a, h, _ => ⟨h, Same.refl _, Int.le_refl _⟩
 | k + 1, K, m, c, a, h, hD => by
  unfold body
  split
  ·rename_i ha
   split
   ·exact ⟨h, Same.refl _, Int.le_refl _⟩
   ·rename_i s hs
    have hlt : a.toNat < b.length := (List.getElem?_eq_some_iff.1 hs).1
    split
    ·exact ⟨⟨{ h.m with }, h.c⟩, Same.refl _, Int.le_refl _⟩
    ·rename_i hne
     have hc : Inv n fuel (K - 3) (count m c.f a) c := ⟨(count_wf h.m c.f a hne).up (by omega), h.c⟩
     obtain ⟨g1, g2, g3, g4, g5⟩ := mk_inv hg hc hD a ⟨ha, by omega⟩ s (hb _ _ hs)
     have hm : m.made ≤ (count m c.f a).made := by show m.made ≤ m.made + 1; omega
     generalize mk inner (count m c.f a) c a s = r at *
     obtain ⟨m', c', a'⟩ := r
     dsimp only at g1 g2 g3 ⊢
     split
     ·exact ⟨g1, g2, Int.le_trans hm g3⟩
     ·obtain ⟨k1, k2, k3⟩ := body_inv hg hb8 hb k K m' c' a' g1 (by rw [g2.1]; exact hD)
      exact ⟨k1, g2.trans k2, Int.le_trans (Int.le_trans hm g3) k3⟩
  ·exact ⟨h, Same.refl _, Int.le_refl _⟩
theorem dropL_len {c : Fr} {d : Int × Int} (h : c.defers.getLast? = some d) : ((dropL c).defers.length : Int) = c.defers.length - 1 := by
 have hne : c.defers ≠ [] := by intro e; rw [e] at h; cases h
 have : 0 < c.defers.length := List.length_pos_iff.2 hne
 simp [dropL]; omega
theorem dropL_wf {N : Int} {c : Fr} (h : WfF N c) : WfF N (dropL c) := { h with defers := fun d hd => h.defers d (List.dropLast_subset _ hd) }
theorem lastEnd_wf {N : Int} {c i : Fr} (h : WfF N c) (hi : WfF N i) : WfF N (lastEnd c i) := by
 have k0 : ∀ x : Int, x = 2 ∨ x = 3 ∨ x = 1 ∨ x = c.kind → 0 ≤ x ∧ x ≤ 3 := by
  intro x hx
  have := h.kind0; have := h.kind1
  omega
 have hk : (lastEnd c i).kind = 2 ∨ (lastEnd c i).kind = 3 ∨ (lastEnd c i).kind = 1 ∨ (lastEnd c i).kind = c.kind := by
  unfold lastEnd
  dsimp only
  split
  ·exact .inl rfl
  ·split
   ·exact .inr (.inl rfl)
   ·split
    ·split
     ·exact .inr (.inl rfl)
     ·exact .inr (.inr (.inl rfl))
    ·exact .inr (.inr (.inr rfl))
 refine { h with r1 := hi.outer, kind0 := (k0 _ hk).1, kind1 := (k0 _ hk).2, value := ?_ }
 unfold lastEnd
 dsimp only
 split
 ·exact hi.value
 ·exact h.value
theorem lastFrame_wf {N : Int} {c : Fr} (h : WfF N c) {d : Int × Int} (hd : d ∈ c.defers) : WfF N (lastFrame c d) := by
 obtain ⟨d0, d1, d2⟩ := h.defers d hd
 refine { newFrame_wf d.1 (c.depth + 1) d.2 d0 d1 d2 with outer := h.r1, panic := ?_ }
 unfold lastFrame
 dsimp only
 split
 ·exact h.value
 ·exact N16_0
theorem dfr_inv {N fuel D : Int} {inner : Call} (hg : Good N fuel (D + 1) inner) :
  ∀ (k : Nat) (K : Int) (m : M) (c : Fr), Inv N fuel K m c → c.depth = D → Inv N fuel K (dfr inner k m c).1 (dfr inner k m c).2 ∧ Same c (dfr inner k m c).2 ∧ m.made ≤ (dfr inner k m c).1.made
 | 0, K, m, c, h, _ => ⟨h, Same.refl _, Int.le_refl _⟩
 | k + 1, K, m, c, h, hD => by
  unfold dfr
  split
  ·exact ⟨h, Same.refl _, Int.le_refl _⟩
  ·rename_i d hd
   have hmem : d ∈ c.defers := List.mem_of_getLast? hd
   have hlen := dropL_len hd
   obtain ⟨g1, g2, g3, g4⟩ := hg (K - 2 * (c.defers.length : Int)) m (lastFrame c d) ⟨by show WfM fuel (K - 2 * (c.defers.length : Int) - 2 * ((([] : List (Int × Int)).length : Nat) : Int)) m; simpa using h.m, lastFrame_wf h.c hmem⟩ (by show c.depth + 1 = D + 1; omega)
   generalize inner m (lastFrame c d) = r at *
   obtain ⟨m', i⟩ := r
   dsimp only at g1 g2 g3 g4 ⊢
   split
   ·exact ⟨⟨g1.up (by rw [hlen]; omega), dropL_wf h.c⟩, ⟨rfl, rfl, rfl, rfl, rfl⟩, g4⟩
   ·have hi : Inv N fuel K m' (lastEnd (dropL c) i) := ⟨g1.up (by show _ ≤ K - 2 * ((dropL c).defers.length : Int); rw [hlen]; omega), lastEnd_wf (dropL_wf h.c) g2⟩
    obtain ⟨k1, k2, k3⟩ := dfr_inv hg k K m' (lastEnd (dropL c) i) hi hD
    exact ⟨k1, Same.trans (b := lastEnd (dropL c) i) ⟨rfl, rfl, rfl, rfl, rfl⟩ k2, Int.le_trans g4 k3⟩
theorem finish_wf {fuel K K' : Int} {m : M} (h : WfM fuel K m) (c : Fr) (hk : K + 1 ≤ K') : WfM fuel K' (finish m c) ∧ (finish m c).made = m.made := by
 unfold finish
 split
 ·exact ⟨tell_wf h _ _ _ hk, rfl⟩
 ·split
  ·exact ⟨tell_wf h _ _ _ hk, rfl⟩
  ·split
   ·exact ⟨tell_wf h _ _ _ hk, rfl⟩
   ·exact ⟨h.up (by omega), rfl⟩
theorem begin_wf {N fuel K : Int} {m : M} {c : Fr} (h : Inv N fuel K m c) (h0 : 0 ≤ c.depth) (h8 : c.depth ≤ 8) : Inv N fuel (K + 1) (begin_ m c) { c with kind := 1 } := by
 refine ⟨?_, { h.c with kind0 := (by show (0 : Int) ≤ 1; omega), kind1 := (by show (1 : Int) ≤ 3; omega) }⟩
 show WfM fuel (K + 1 - 2 * (c.defers.length : Int)) (begin_ m c)
 have h1 : WfM fuel (K - 2 * (c.defers.length : Int)) { m with deep := if m.deep > c.depth then m.deep else c.depth } :=
  {h.m with deep0 := (by show 0 ≤ (if m.deep > c.depth then m.deep else c.depth); have := h.m.deep0; split <;> omega), deep1 := (by show (if m.deep > c.depth then m.deep else c.depth) ≤ 8; have := h.m.deep1; split <;> omega) }
 exact tell_wf h1 _ _ _ (by omega)
theorem call_good {p : Pg} (hp : okProg p = true) {fuel : Int} : ∀ d : Nat, d ≤ 8 → Good p.length fuel (9 - d) (call p fuel d)
 | 0, _ => fun K m c h _ => ⟨{ (h.m.up (by omega) : WfM fuel (K + 2) m) with }, h.c, Same.refl _, Int.le_refl _⟩
 | d + 1, hd => fun K m c h hD => by
  have hg : Good p.length fuel (8 - (d : Int) + 1) (call p fuel d) := by
   have := call_good hp (fuel := fuel) d (by omega)
   rwa [show (9 : Int) - d = 8 - d + 1 by omega] at this
  have hD' : c.depth = 8 - (d : Int) := by rw [hD]; omega
  have hi := begin_wf h (by omega) (by omega)
  have hmade : (begin_ m c).made = m.made := rfl
  have hbody : ∃ b, p[c.f.toNat]? = some b := ⟨_, List.getElem?_eq_getElem (by have := h.c.f0; have := h.c.f1; omega)⟩
  obtain ⟨b, hb⟩ := hbody
  have hgd : p.getD c.f.toNat [] = b := by rw [List.getD_eq_getElem?_getD, hb]; rfl
  obtain ⟨hb8, hbs⟩ := okProg_body hp hb
  show WfM fuel (K + 2) (afterB (call p fuel d) (body (call p fuel d) (p.getD c.f.toNat []) fuel (fuel.toNat + 1) (begin_ m c) { c with kind := 1 } 0)).1 ∧ WfF p.length (afterB (call p fuel d) (body (call p fuel d) (p.getD c.f.toNat []) fuel (fuel.toNat + 1) (begin_ m c) { c with kind := 1 } 0)).2 ∧
   Same c (afterB (call p fuel d) (body (call p fuel d) (p.getD c.f.toNat []) fuel (fuel.toNat + 1) (begin_ m c) { c with kind := 1 } 0)).2 ∧ m.made ≤ (afterB (call p fuel d) (body (call p fuel d) (p.getD c.f.toNat []) fuel (fuel.toNat + 1) (begin_ m c) { c with kind := 1 } 0)).1.made
  rw [hgd]
  obtain ⟨g1, g2, g3⟩ := body_inv hg hb8 hbs (fuel.toNat + 1) (K + 1) (begin_ m c) { c with kind := 1 } 0 hi hD'
  generalize body (call p fuel d) b fuel (fuel.toNat + 1) (begin_ m c) { c with kind := 1 } 0 = r at *
  have s1 : Same c r.2 := Same.trans (b := { c with kind := 1 }) ⟨rfl, rfl, rfl, rfl, rfl⟩ g2
  rw [hmade] at g3
  unfold afterB
  split
  ·exact ⟨g1.m.up (by omega), g1.c, s1, g3⟩
  ·obtain ⟨k1, k2, k3⟩ := dfr_inv hg r.2.defers.length (K + 1) r.1 r.2 g1 (by rw [s1.1]; exact hD')
   generalize dfr (call p fuel d) r.2.defers.length r.1 r.2 = q at *
   unfold closeC
   split
   ·exact ⟨k1.m.up (by omega), k1.c, s1.trans k2, Int.le_trans g3 k3⟩
   ·obtain ⟨f1, f2⟩ := finish_wf (K' := K + 2) k1.m q.2 (by omega)
    exact ⟨f1, k1.c, s1.trans k2, by show m.made ≤ (finish q.1 q.2).made; rw [f2]; exact Int.le_trans g3 k3⟩
end Go.Proofs.Ytdmcgkcpclepfaa.PL
-- squeezed
