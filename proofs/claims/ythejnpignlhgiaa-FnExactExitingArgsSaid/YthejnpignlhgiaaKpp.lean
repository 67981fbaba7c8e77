import Derived.Test.YthejnpignlhgiaaDeep
import Derived.Test.YthejnpignlhgiaaPArgP
set_option linter.all false
namespace Go.Proofs.Ythejnpignlhgiaa.Kpp
open PL AskP StpS Sout PArgP Swhole
theorem mk_k (inner : PL.Call) (m : M) (c : Fr) (a : Int) (s : Tr) (h : K3 c) : K3 (mk inner m c a s).2.1 := by
 unfold mk
 split
 ·exact (innerEnd_at c _ a h).1
 ·split
  ·exact h
  ·split
   ·exact .inr (.inl rfl)
   ·split
    ·exact h
    ·split
     ·exact .inr (.inr rfl)
     ·split
      ·exact h
      ·show K3 (simple m c s).2
       have := (simple_spent m c s).2.1
       unfold K3 at *
       rw [this]
       exact h
theorem body_k (inner : PL.Call) (b : List Tr) (fuel : Int) : ∀ (k : Nat) (m : M) (c : Fr) (a : Int), K3 c → K3 (body inner b fuel k m c a).2
 | 0, m, c, a, h => h
 | k + 1, m, c, a, h => by
  unfold PL.body
  split
  ·split
   ·exact h
   ·split
    ·exact h
    ·have := mk_k inner (count m c.f a) c a (by assumption) h
     split
     rename_i m' c' a' e
     rw [e] at this
     split
     ·exact this
     ·exact body_k inner b fuel k m' c' a' this
  ·exact h
theorem dfr_k (inner : PL.Call) : ∀ (k : Nat) (m : M) (c : Fr), K3 c → K3 (dfr inner k m c).2
 | 0, m, c, h => h
 | k + 1, m, c, h => by
  unfold dfr
  split
  ·exact h
  ·split
   split
   ·exact h
   ·exact dfr_k inner k _ _ (lastEnd_at (c := dropL c) h).1
theorem call_k (p : Pg) (fuel : Int) (d : Nat) (m : M) (c : Fr) : K3 (call p fuel (d + 1) m c).2 := by
 show K3 (afterB (call p fuel d) (body (call p fuel d) (p.getD c.f.toNat []) fuel (fuel.toNat + 1) (begin_ m c) { c with kind := 1 } 0)).2
 have h := body_k (call p fuel d) (p.getD c.f.toNat []) fuel (fuel.toNat + 1) (begin_ m c) { c with kind := 1 } 0 (.inl rfl)
 generalize body (call p fuel d) (p.getD c.f.toNat []) fuel (fuel.toNat + 1) (begin_ m c) { c with kind := 1 } 0 = r at *
 unfold afterB
 split
 ·exact h
 ·have := dfr_k (call p fuel d) r.2.defers.length r.1 r.2 h
  unfold closeC
  split <;> exact this
structure Tells (o : Out) : Prop where
 kind : o.kind = 1 ∨ o.kind = 2 ∨ o.kind = 3 ∨ o.kind = 4
 value : -32768 ≤ o.value ∧ o.value ≤ 32767
 spent0 : 0 ≤ o.spent
 spent1 : o.spent ≤ 200
theorem tells {p : Pg} {f arg fuel : Int} (ha : asks p f arg fuel = true) : Tells (run p fuel f arg) := by
 obtain ⟨h1, h2, h3, h4, h5, h6⟩ := start_wf (n := p.length) ha
 have hk := call_k p fuel 7 PL.start (newFrame f 1 arg)
 obtain ⟨g1, g2, _, _⟩ := call_good h1 (fuel := fuel) 8 (by omega) 3000 PL.start (newFrame f 1 arg) ⟨start_m h5 h6 (by show (600 : Int) ≤ 3000 - 2 * 0; decide), newFrame_wf f 1 arg h2 h3 h4⟩ rfl
 unfold run whole
 generalize PL.call p fuel 8 PL.start (newFrame f 1 arg) = r at *
 unfold told
 refine ⟨?_, ?_, g1.made0, Int.le_trans g1.made1 h6⟩
 ·dsimp only
  split
  ·exact .inr (.inr (.inr rfl))
  ·rcases hk with h | h | h
   ·exact .inl h
   ·exact .inr (.inl h)
   ·exact .inr (.inr (.inl h))
 ·dsimp only
  have n1 := g2.r1
  have n2 := g2.value
  unfold N16 at n1 n2
  split
  ·omega
  ·split
   ·exact n1
   ·split
    ·exact n2
    ·omega
theorem tells_kind {p : Pg} {f arg fuel : Int} (ha : asks p f arg fuel = true) : (run p fuel f arg).kind = 1 ∨ (run p fuel f arg).kind = 2 ∨ (run p fuel f arg).kind = 3 ∨ (run p fuel f arg).kind = 4 := (tells ha).kind
theorem runR_yes {p : Pg} {f arg fuel : Int} (ha : asks p f arg fuel = true) : runR p f arg fuel = (run p fuel f arg, true) := by unfold runR; rw [ha]; rfl
theorem wrap16_in {n : Int} (h : -32768 ≤ n ∧ n ≤ 32767) : wrap16 n = n := by unfold wrap16; omega
theorem asks_any {p : Pg} {f low fuel : Int} (h : asks p f low fuel = true) (n : Int) (hn : -32768 ≤ n ∧ n ≤ 32767) : asks p f n fuel = true :=
 asks_mid h (by unfold isNum; simp only [Bool.and_eq_true, decide_eq_true_eq]; omega)
def okPol (t w fa mo : Int) : Bool := btw t 1 20 && btw w 0 10000 && btw mo 0 10000 && btw fa 1 6
theorem okPol_iff {t w fa mo : Int} (h : okPol t w fa mo = true) : (1 ≤ t ∧ t ≤ 20) ∧ (0 ≤ w ∧ w ≤ 10000) ∧ (0 ≤ mo ∧ mo ≤ 10000) ∧ (1 ≤ fa ∧ fa ≤ 6) := by
 unfold okPol btw at h
 simp only [Bool.and_eq_true, decide_eq_true_eq] at h
 omega
def wt (w fa mo : Int) : Nat → Int
 | 0 => min w mo
 | k + 1 => min (wt w fa mo k * fa) mo
theorem wt_in {w fa mo : Int} (hw : 0 ≤ w) (hm : 0 ≤ mo) (hf : 1 ≤ fa) : ∀ k, 0 ≤ wt w fa mo k ∧ wt w fa mo k ≤ mo
 | 0 => by unfold wt; omega
 | k + 1 => by
  have h := wt_in hw hm hf k
  have : 0 ≤ wt w fa mo k * fa := Int.mul_nonneg h.1 (by omega)
  unfold wt
  omega
def waitL (w fa mo : Int) (n : Nat) : List Int := (List.range n).map (wt w fa mo)
theorem waitL_len (w fa mo : Int) (n : Nat) : (waitL w fa mo n).length = n := by simp [waitL]
theorem waitL_snoc (w fa mo : Int) (n : Nat) : waitL w fa mo (n + 1) = waitL w fa mo n ++ [wt w fa mo n] := by simp [waitL, List.range_succ]
theorem waitL_get (w fa mo : Int) (n i : Nat) (h : i < n) : (waitL w fa mo n)[i]? = some (wt w fa mo i) := by
 simp [waitL, List.getElem?_range h]
def waitsR (t w fa mo : Int) : List Int × Bool := if okPol t w fa mo = true then (waitL w fa mo (t.toNat - 1), true) else ([], false)
theorem waitsR_len (t w fa mo : Int) : (waitsR t w fa mo).1.length ≤ 100000 := by
 unfold waitsR
 split
 ·rename_i h
  have := okPol_iff h
  show (waitL w fa mo (t.toNat - 1)).length ≤ 100000
  rw [waitL_len]
  omega
 ·simp
def wsum (w fa mo : Int) : Nat → Int
 | 0 => 0
 | k + 1 => wsum w fa mo k + wt w fa mo k
theorem wsum_in {w fa mo : Int} (hw : 0 ≤ w) (hm : 0 ≤ mo) (hm2 : mo ≤ 10000) (hf : 1 ≤ fa) : ∀ k : Nat, 0 ≤ wsum w fa mo k ∧ wsum w fa mo k ≤ 10000 * k
 | 0 => by unfold wsum; omega
 | k + 1 => by
  have h := wsum_in hw hm hm2 hf k
  have h2 := wt_in hw hm hf k
  unfold wsum
  omega
def ends (o : Out) : Bool := o.kind == 1 || o.kind == 3
def tr (p : Pg) (f arg fuel : Int) (i : Nat) : Out := run p fuel f (wrap16 (arg + i))
theorem tr_zero {p : Pg} {f arg fuel : Int} (ha : asks p f arg fuel = true) : tr p f arg fuel 0 = run p fuel f arg := by
 unfold tr
 rw [show arg + ((0 : Nat) : Int) = arg by omega, wrap16_in (asks_num ha)]
def rtGo (t : Nat → Out) : Nat → Nat → Nat
 | 0, m => m
 | l + 1, m => if ends (t (m - 1)) = true then m else rtGo t l (m + 1)
theorem rtGo_yes {t : Nat → Out} {l m : Nat} (h : ends (t (m - 1)) = true) : rtGo t l m = m := by
 cases l with
 | zero => rfl
 | succ l => rw [rtGo, if_pos h]
theorem rtGo_no {t : Nat → Out} {l m : Nat} (h : ends (t (m - 1)) = false) : rtGo t (l + 1) m = rtGo t l (m + 1) := by rw [rtGo, if_neg (by rw [h]; decide)]
theorem rtGo_in (t : Nat → Out) : ∀ l m, m ≤ rtGo t l m ∧ rtGo t l m ≤ m + l
 | 0, m => ⟨Nat.le_refl _, Nat.le_refl _⟩
 | l + 1, m => by
  have := rtGo_in t l (m + 1)
  rw [rtGo]
  split <;> omega
def made (p : Pg) (f arg fuel t : Int) : Nat := rtGo (tr p f arg fuel) (t.toNat - 1) 1
theorem made_in (p : Pg) (f arg fuel t : Int) (ht : 1 ≤ t) : 1 ≤ made p f arg fuel t ∧ (made p f arg fuel t : Int) ≤ t := by
 have := rtGo_in (tr p f arg fuel) (t.toNat - 1) 1
 unfold made
 omega
def noOut : Out := { kind := 0, value := 0, trace := [], spent := 0 }
def retryR (p : Pg) (f arg fuel t w fa mo : Int) : Out × Int × Int × Bool :=
 if (asks p f arg fuel && okPol t w fa mo) = true then (tr p f arg fuel (made p f arg fuel t - 1), (made p f arg fuel t : Int), wsum w fa mo (made p f arg fuel t - 1), true) else (noOut, 0, 0, false)
def neededR (p : Pg) (f arg fuel : Int) : Int × Bool :=
 if asks p f arg fuel = true then (if (tr p f arg fuel (made p f arg fuel 20 - 1)).kind = 1 then ((made p f arg fuel 20 : Int), true) else (0, false)) else (0, false)
def fgGo (p : Pg) (f low fuel : Int) : Nat → Nat → Int × Bool
 | 0, q => (0, false)
 | l + 1, q => if (run p fuel f (low + q)).kind = 1 then (low + q, true) else fgGo p f low fuel l (q + 1)
theorem fgGo_yes {p : Pg} {f low fuel : Int} {l q : Nat} (h : (run p fuel f (low + q)).kind = 1) : fgGo p f low fuel (l + 1) q = (low + q, true) := by rw [fgGo, if_pos h]
theorem fgGo_no {p : Pg} {f low fuel : Int} {l q : Nat} (h : (run p fuel f (low + q)).kind ≠ 1) : fgGo p f low fuel (l + 1) q = fgGo p f low fuel l (q + 1) := by rw [fgGo, if_neg h]
def goodR (p : Pg) (f low high fuel : Int) : Int × Bool := if rangeOk p f low high fuel = true then fgGo p f low fuel (high - low + 1).toNat 0 else (0, false)
def okDeeds (p : Pg) (l : List (Int × Int)) : Bool := l.all (fun d => Res.isFn p d.1 && Res.isFn p d.2)
def carGo (p : Pg) (fuel : Int) : List (Int × Int) → Int → List Int → List Int × Bool
 | [], _, acc => (acc, true)
 | d :: ds, now, acc => if (run p fuel d.1 now).kind = 1 then carGo p fuel ds (run p fuel d.1 now).value (acc ++ [(run p fuel d.1 now).value]) else (acc, false)
def down : Nat → List Int
 | 0 => []
 | k + 1 => (k : Int) :: down k
def stk (p : Pg) (fuel : Int) (l : List (Int × Int)) (rs : List Int) : Nat → List Int
 | 0 => []
 | k + 1 => if (run p fuel (l.getD k (0, 0)).2 (rs.getD k 0)).kind = 1 then stk p fuel l rs k else (k : Int) :: stk p fuel l rs k
structure KS where
 kinds : List Int
 fails : List Int
 clock : Int
 most : Int
def late (fs : List Int) (b : Int) : Nat := (fs.filter (fun t => decide (b < t))).length
def failK (span : Int) (o : Out) (s : KS) : KS :=
 {kinds := s.kinds ++ [o.kind], fails := s.fails ++ [s.clock + o.spent], clock := s.clock + o.spent, most := max s.most (late (s.fails ++ [s.clock + o.spent]) (s.clock + o.spent - span)) }
def goodK (o : Out) (s : KS) : KS := { s with kinds := s.kinds ++ [o.kind], clock := s.clock + o.spent }
def kstep (span : Int) (o : Out) (s : KS) : KS := if ends o = true then goodK o s else failK span o s
def keepGo (r : Int → Out) (limit span : Int) : List Int → KS → KS
 | [], s => s
 | j :: js, s => if limit < (kstep span (r j) s).most then kstep span (r j) s else keepGo r limit span js (kstep span (r j) s)
def k0 : KS := { kinds := [], fails := [], clock := 0, most := 0 }
theorem late_le (fs : List Int) (b : Int) : late fs b ≤ fs.length := List.length_filter_le _ _
structure KIn (q : Nat) (s : KS) : Prop where
 kinds : s.kinds.length = q
 fails : s.fails.length ≤ q
 clock0 : 0 ≤ s.clock
 clock1 : s.clock ≤ 200 * q
 most0 : 0 ≤ s.most
 most1 : s.most ≤ q
theorem KIn.zero : KIn 0 k0 := ⟨rfl, Nat.le_refl _, Int.le_refl _, Int.le_refl _, Int.le_refl _, Int.le_refl _⟩
theorem KIn.step {q : Nat} {s : KS} (h : KIn q s) {o : Out} (ho : Tells o) (span : Int) : KIn (q + 1) (kstep span o s) := by
 have h1 := h.kinds
 have h2 := h.fails
 have h3 := h.clock0
 have h4 := h.clock1
 have h5 := h.most0
 have h6 := h.most1
 have h7 := ho.spent0
 have h8 := ho.spent1
 unfold kstep
 split
 ·refine ⟨?_, ?_, ?_, ?_, ?_, ?_⟩ <;> unfold goodK <;> dsimp only
  ·rw [List.length_append, List.length_singleton]; omega
  ·omega
  ·omega
  ·omega
  ·omega
  ·omega
 ·have hl := late_le (s.fails ++ [s.clock + o.spent]) (s.clock + o.spent - span)
  rw [List.length_append, List.length_singleton] at hl
  refine ⟨?_, ?_, ?_, ?_, ?_, ?_⟩ <;> unfold failK <;> dsimp only
  ·rw [List.length_append, List.length_singleton]; omega
  ·rw [List.length_append, List.length_singleton]; omega
  ·omega
  ·omega
  ·omega
  ·omega
theorem keepGo_in {r : Int → Out} {limit span : Int} : ∀ (js : List Int) (q : Nat) (s : KS), KIn q s → (∀ j ∈ js, Tells (r j)) → ∃ q', q' ≤ q + js.length ∧ KIn q' (keepGo r limit span js s)
 | [], q, s, h, _ => ⟨q, Nat.le_refl _, h⟩
 | j :: js, q, s, h, hr => by
  have h1 := h.step (hr j (List.mem_cons_self ..)) span
  rw [keepGo]
  split
  ·exact ⟨q + 1, by simp, h1⟩
  ·obtain ⟨q', hq, hk⟩ := keepGo_in js (q + 1) _ h1 (fun x hx => hr x (List.mem_cons_of_mem _ hx))
   exact ⟨q', by simp only [List.length_cons]; omega, hk⟩
theorem kstep_most (span : Int) (o : Out) (s : KS) : s.most ≤ (kstep span o s).most := by
 unfold kstep
 split
 ·exact Int.le_refl _
 ·unfold failK; dsimp only; omega
theorem keepGo_most {r : Int → Out} {limit span : Int} : ∀ (js : List Int) (s : KS), s.most ≤ (keepGo r limit span js s).most
 | [], s => Int.le_refl _
 | j :: js, s => by
  have h := kstep_most span (r j) s
  rw [keepGo]
  split
  ·exact h
  ·exact Int.le_trans h (keepGo_most js _)
theorem keepGo_gives {r : Int → Out} {limit big span : Int} (hb : limit ≤ big) : ∀ (js : List Int) (s : KS), (limit < (keepGo r limit span js s).most ↔ limit < (keepGo r big span js s).most)
 | [], s => Iff.rfl
 | j :: js, s => by
  rw [keepGo, keepGo]
  by_cases h : limit < (kstep span (r j) s).most
  ·rw [if_pos h]
   refine ⟨fun _ => ?_, fun _ => h⟩
   split
   ·exact h
   ·exact Int.lt_of_lt_of_le h (keepGo_most js _)
  ·rw [if_neg h, if_neg (by omega)]
   exact keepGo_gives hb js _
end Go.Proofs.Ythejnpignlhgiaa.Kpp
-- squeezed
