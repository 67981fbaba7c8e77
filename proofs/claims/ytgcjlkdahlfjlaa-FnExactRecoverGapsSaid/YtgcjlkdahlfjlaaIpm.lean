/- The program's reading of panics in memory: rows of cells. -/
import Derived.Test.YtgcjlkdahlfjlaaM23
import Derived.Test.YtgcjlkdahlfjlaaM24
import Derived.Test.YtgcjlkdahlfjlaaM3
import Derived.Test.YtgcjlkdahlfjlaaM19
import Derived.Test.YtgcjlkdahlfjlaaM21
set_option linter.unusedVariables false
set_option linter.unusedSimpArgs false
namespace Go.Proofs.Ytgcjlkdahlfjlaa.Ipm
open Go.ChangeShapes Go.WideShapes Go.ChangeAt Go.RowKit
open PL Mem Srun Sst IntsP RowA RowC AccP Pw

section
variable {α : Type} {f : α → List Value} {K : Nat}
theorem rk_at (hK : ∀ a, (f a).length = K) : ∀ (l : List α) (j : Nat) (s : α) (o : Nat), l[j]? = some s → o < K → (l.flatMap f)[j * K + o]? = (f s)[o]?
 | [], j, s, o, h, _ => by simp at h
 | a :: l, 0, s, o, h, ho => by
  obtain rfl : a = s := by simpa using h
  rw [List.flatMap_cons, Nat.zero_mul, Nat.zero_add, List.getElem?_append_left (by rw [hK]; exact ho)]
 | a :: l, j + 1, s, o, h, ho => by
  have := rk_at hK l j s o (by simpa using h) ho
  rw [List.flatMap_cons, List.getElem?_append_right (by rw [hK, Nat.succ_mul]; omega), hK, show (j + 1) * K + o - K = j * K + o by rw [Nat.succ_mul]; omega]
  exact this
theorem rk_put (hK : ∀ a, (f a).length = K) : ∀ (l : List α) (j : Nat) (c c' : α) (o : Nat) (u : Value), l[j]? = some c → o < K → (f c).set o u = f c' → (l.flatMap f).set (j * K + o) u = (l.set j c').flatMap f
 | [], j, c, c', o, u, h, _, _ => by simp at h
 | a :: l, 0, c, c', o, u, h, ho, he => by
  obtain rfl : a = c := by simpa using h
  rw [List.flatMap_cons, Nat.zero_mul, Nat.zero_add, List.set_append_left _ _ (by rw [hK]; exact ho), he, List.set_cons_zero, List.flatMap_cons]
 | a :: l, j + 1, c, c', o, u, h, ho, he => by
  have := rk_put hK l j c c' o u (by simpa using h) ho he
  rw [List.flatMap_cons, List.set_append_right _ _ (by rw [hK, Nat.succ_mul]; omega), hK, show (j + 1) * K + o - K = j * K + o by rw [Nat.succ_mul]; omega, this, List.set_cons_succ, List.flatMap_cons]
theorem rk_snoc (l : List α) (a : α) : (l ++ [a]).flatMap f = l.flatMap f ++ f a := by simp
variable {w : World} {B e n g cap : Nat} {xs : List α}
theorem row_at (hK : ∀ a, (f a).length = K) (h : w.ownsRow B e K (.slice (some ⟨g, 0, none⟩) n cap) n (xs.flatMap f)) {j : Nat} {s : α} (hs : xs[j]? = some s) {o : Nat} (ho : o < K) (hn : xs.length = n) :
  w.cell? ⟨g, j * K + o, none⟩ = (f s)[o]? := by
 have hj : j < xs.length := (List.getElem?_eq_some_iff.1 hs).1
 have h1 : j * K + o < n * K := by
  have : (j + 1) * K ≤ n * K := Nat.mul_le_mul_right K (by omega)
  rw [Nat.succ_mul] at this
  omega
 exact (h.cellAt _ h1).trans (rk_at hK xs j s o hs ho)
theorem row_put (hK : ∀ a, (f a).length = K) (h : w.ownsRow B e K (.slice (some ⟨g, 0, none⟩) n cap) n (xs.flatMap f)) {j : Nat} {s : α} (hs : xs[j]? = some s) (o : Nat) (u : Value) (s' : α) (ho : o < K) (he : (f s).set o u = f s') :
  (w.setCell ⟨g, j * K + o, none⟩ u).ownsRow B e K (.slice (some ⟨g, 0, none⟩) n cap) n ((xs.set j s').flatMap f) := by
 have := (h.stored (j * K + o) u).1
 rwa [rk_put hK xs j s s' o u hs ho he] at this
end

def z5 (z : Rz) : List Value := [.int .i64 z.1, .int .i64 z.2.1, .int .i64 z.2.2.1, .int .i64 z.2.2.2.1, .int .i64 z.2.2.2.2]
theorem z5_len (z : Rz) : (z5 z).length = 5 := rfl
def q2 (z : Int × Int) : List Value := [.int .i64 z.1, .int .i64 z.2]
theorem q2_len (z : Int × Int) : (q2 z).length = 2 := rfl
def f4 (y : Fo × Value) : List Value := [.int .i64 y.1.fate, .int .i64 y.1.replacer, .int .i64 y.1.replaced, y.2]
theorem f4_len (y : Fo × Value) : (f4 y).length = 4 := rfl
def FoR (V : World) (lo : Nat) (v : Value) (fs : List Fo) : Prop :=
 ∃ L : List (Fo × Value), L.map Prod.fst = fs ∧ V.ownsRow lo 78 4 v fs.length (L.flatMap f4) ∧
  (∀ (k : Nat) (y : Fo) (u : Value), L[k]? = some (y, u) → ∃ A c, u = .slice A y.unwound.length c ∧ V.ownsRow lo 3 1 u y.unwound.length (cellsI y.unwound)) ∧
  ∀ (j k : Nat) (y z : Fo × Value), j ≠ k → L[j]? = some y → L[k]? = some z → Apt y.2 z.2
def rcells (ga : Nat) (hp hf ho hr : Hd) (i : IS) : Array Value := #[.pointer (some ⟨ga, 0, none⟩), .slice hp.A i.pans.length hp.c, .slice hf.A i.forts.length hf.c, .slice ho.A i.on.length ho.c, .slice hr.A i.rec_.length hr.c]
def OwnX (lo g : Nat) (ho : Hd) (x : Nat) : Prop := x = g ∨ (Value.slice ho.A 0 0).ownBlock = some x ∨ lo ≤ x
structure IW (V : World) (lo g ga : Nat) (hp hf ho hr : Hd) (i : IS) : Prop where
 blk : Blk V g 72 (rcells ga hp hf ho hr i)
 pans : V.ownsRow lo 76 5 (.slice hp.A i.pans.length hp.c) i.pans.length (i.pans.flatMap z5)
 forts : FoR V lo (.slice hf.A i.forts.length hf.c) i.forts
 on : V.ownsRow 0 76 5 (.slice ho.A i.on.length ho.c) i.on.length (i.on.flatMap z5)
 rec_ : V.ownsRow lo 85 2 (.slice hr.A i.rec_.length hr.c) i.rec_.length (i.rec_.flatMap q2)
 apt : Apt (.slice hp.A i.pans.length hp.c) (.slice ho.A i.on.length ho.c)
section
variable {V V' : World} {lo g ga : Nat} {hp hf ho hr : Hd} {i : IS}
theorem FoR.keep {v : Value} {fs : List Fo} (h : FoR V lo v fs) (h1 : ∀ xs, V.ownsRow lo 78 4 v fs.length xs → V'.ownsRow lo 78 4 v fs.length xs)
  (h2 : ∀ (u : Value) (n : Nat) (xs : List Value), V.ownsRow lo 3 1 u n xs → V'.ownsRow lo 3 1 u n xs) : FoR V' lo v fs := by
 obtain ⟨L, a, b, c, d⟩ := h
 refine ⟨L, a, h1 _ b, fun k y u hk => ?_, d⟩
 obtain ⟨A, cc, e1, e2⟩ := c k y u hk
 exact ⟨A, cc, e1, h2 _ _ _ e2⟩
theorem IW.below (h : IW V lo g ga hp hf ho hr i) (hb : Below V.heap.size V V') : IW V' lo g ga hp hf ho hr i :=
 ⟨h.blk.below hb h.blk.lt, own_below h.pans hb (Nat.le_refl _), h.forts.keep (fun _ hv => own_below hv hb (Nat.le_refl _)) (fun _ _ _ hv => own_below hv hb (Nat.le_refl _)), own_below h.on hb (Nat.le_refl _), own_below h.rec_ hb (Nat.le_refl _), h.apt⟩
theorem IW.lt (h : IW V lo g ga hp hf ho hr i) : g < V.heap.size := h.blk.lt
theorem IW.setc (h : IW V lo g ga hp hf ho hr i) {x : Nat} (hx : (Value.slice hf.A 0 0).ownBlock = some x) : lo ≤ x := by
 obtain ⟨L, _, hv, _⟩ := h.forts
 exact (World.ownsRow.lt hv x ((slice_own _ _ _ _ _).trans hx)).1
theorem foLen {fs : List Fo} {L : List (Fo × Value)} (h : L.map Prod.fst = fs) : L.length = fs.length := by rw [← h, List.length_map]
theorem IW.putPans {w1 : World} {hp' : Hd} {ps : List Rz} (h : IW V lo g ga hp hf ho hr i) (hch : Chg (fun x => (Value.slice hp.A i.pans.length hp.c).ownBlock = some x) V w1)
  (hn : w1.ownsRow lo 76 5 (.slice hp'.A ps.length hp'.c) ps.length (ps.flatMap z5)) (ha : Apt (.slice hp'.A ps.length hp'.c) (.slice ho.A i.on.length ho.c)) :
  IW (w1.setCell ⟨g, 1, none⟩ (.slice hp'.A ps.length hp'.c)) lo g ga hp' hf ho hr ⟨ps, i.forts, i.on, i.rec_⟩ := by
 have hb := h.blk.chg hch (blk_apart h.pans h.blk (by decide))
 have f : ∀ {lo e sz n : Nat} {v : Value} {xs : List Value}, e ≠ 76 → e ≠ 72 → V.ownsRow lo e sz v n xs → (w1.setCell ⟨g, 1, none⟩ (.slice hp'.A ps.length hp'.c)).ownsRow lo e sz v n xs := fun h1 h2 hv => by
  have := own_chg hv hch (fun x hx => apart hv h.pans h1 x hx)
  exact own_far this _ _ (blk_apart this hb h2)
 have hon := own_chg h.on hch (fun x hx e => h.apt x e hx)
 refine ⟨hb.put 1 _, own_far hn _ _ (blk_apart hn hb (by decide)), h.forts.keep (fun _ hv => f (by decide) (by decide) hv) (fun _ _ _ hv => f (by decide) (by decide) hv), own_far hon _ _ (blk_apart hon hb (by decide)), f (by decide) (by decide) h.rec_, ha⟩
theorem IW.putRec {w1 : World} {hr' : Hd} {rs : List (Int × Int)} (h : IW V lo g ga hp hf ho hr i) (hch : Chg (fun x => (Value.slice hr.A i.rec_.length hr.c).ownBlock = some x) V w1)
  (hn : w1.ownsRow lo 85 2 (.slice hr'.A rs.length hr'.c) rs.length (rs.flatMap q2)) :
  IW (w1.setCell ⟨g, 4, none⟩ (.slice hr'.A rs.length hr'.c)) lo g ga hp hf ho hr' ⟨i.pans, i.forts, i.on, rs⟩ := by
 have hb := h.blk.chg hch (blk_apart h.rec_ h.blk (by decide))
 have f : ∀ {lo e sz n : Nat} {v : Value} {xs : List Value}, e ≠ 85 → e ≠ 72 → V.ownsRow lo e sz v n xs → (w1.setCell ⟨g, 4, none⟩ (.slice hr'.A rs.length hr'.c)).ownsRow lo e sz v n xs := fun h1 h2 hv => by
  have := own_chg hv hch (fun x hx => apart hv h.rec_ h1 x hx)
  exact own_far this _ _ (blk_apart this hb h2)
 exact ⟨hb.put 4 _, f (by decide) (by decide) h.pans, h.forts.keep (fun _ hv => f (by decide) (by decide) hv) (fun _ _ _ hv => f (by decide) (by decide) hv), f (by decide) (by decide) h.on, own_far hn _ _ (blk_apart hn hb (by decide)), h.apt⟩
theorem IW.addFort {w1 : World} {hf' : Hd} {y : Fo} (h : IW V lo g ga hp hf ho hr i) (hy : y.unwound = []) (L : List (Fo × Value)) (hL : L.map Prod.fst = i.forts)
  (hrow : ∀ (k : Nat) (y : Fo) (u : Value), L[k]? = some (y, u) → ∃ A c, u = .slice A y.unwound.length c ∧ V.ownsRow lo 3 1 u y.unwound.length (cellsI y.unwound)) (hapt : ∀ (j k : Nat) (y z : Fo × Value), j ≠ k → L[j]? = some y → L[k]? = some z → Apt y.2 z.2)
  (hv : V.ownsRow lo 78 4 (.slice hf.A i.forts.length hf.c) i.forts.length (L.flatMap f4))
  (hch : Chg (fun x => (Value.slice hf.A i.forts.length hf.c).ownBlock = some x) V w1)
  (hn : w1.ownsRow lo 78 4 (.slice hf'.A (i.forts.length + 1) hf'.c) (i.forts.length + 1) (L.flatMap f4 ++ f4 (y, .slice none 0 0))) :
  IW (w1.setCell ⟨g, 2, none⟩ (.slice hf'.A (i.forts.length + 1) hf'.c)) lo g ga hp hf' ho hr ⟨i.pans, i.forts ++ [y], i.on, i.rec_⟩ := by
 have hb := h.blk.chg hch (blk_apart hv h.blk (by decide))
 have f : ∀ {lo e sz n : Nat} {v : Value} {xs : List Value}, e ≠ 78 → e ≠ 72 → V.ownsRow lo e sz v n xs → (w1.setCell ⟨g, 2, none⟩ (.slice hf'.A (i.forts.length + 1) hf'.c)).ownsRow lo e sz v n xs := fun h1 h2 hx => by
  have := own_chg hx hch (fun x e => apart hx hv h1 x e)
  exact own_far this _ _ (blk_apart this hb h2)
 have hll : L.length = i.forts.length := foLen hL
 have hlen : (i.forts ++ [y]).length = i.forts.length + 1 := by simp
 refine ⟨?_, f (by decide) (by decide) h.pans, ?_, f (by decide) (by decide) h.on, f (by decide) (by decide) h.rec_, h.apt⟩
 ·have := hb.put 2 (.slice hf'.A (i.forts.length + 1) hf'.c)
  unfold rcells
  rw [hlen]
  exact this
 ·rw [hlen]
  refine ⟨L ++ [(y, .slice none 0 0)], by rw [List.map_append, hL]; rfl, ?_, fun k z u hk => ?_, fun j k a b hjk ha hb' => ?_⟩
  ·rw [hlen, rk_snoc]
   exact own_far hn _ _ (blk_apart hn hb (by decide))
  ·by_cases hkl : k < L.length
   ·rw [List.getElem?_append_left hkl] at hk
    obtain ⟨A, c, e1, e2⟩ := hrow k z u hk
    exact ⟨A, c, e1, f (by decide) (by decide) e2⟩
   ·rw [List.getElem?_append_right (by omega)] at hk
    cases hkk : k - L.length with
    | zero =>
     rw [hkk] at hk
     simp only [List.getElem?_cons_zero, Option.some.injEq, Prod.mk.injEq] at hk
     obtain ⟨rfl, rfl⟩ := hk
     rw [hy]
     exact ⟨none, 0, rfl, ⟨rfl, .inl ⟨rfl, rfl⟩⟩⟩
    | succ m => rw [hkk] at hk; simp at hk
  ·have key : ∀ (j : Nat) (a : Fo × Value), (L ++ [(y, Value.slice none 0 0)])[j]? = some a → (j < L.length ∧ L[j]? = some a) ∨ (j = L.length ∧ a.2 = .slice none 0 0) := fun j a ha => by
    by_cases hjl : j < L.length
    ·rw [List.getElem?_append_left hjl] at ha
     exact .inl ⟨hjl, ha⟩
    ·rw [List.getElem?_append_right (by omega)] at ha
     cases hkk : j - L.length with
     | zero =>
      rw [hkk] at ha
      simp only [List.getElem?_cons_zero, Option.some.injEq] at ha
      exact .inr ⟨by omega, by rw [← ha]⟩
     | succ m => rw [hkk] at ha; simp at ha
   rcases key j a ha with ⟨h1, h2⟩ | ⟨h1, h2⟩
   ·rcases key k b hb' with ⟨h3, h4⟩ | ⟨h3, h4⟩
    ·exact hapt j k a b hjk h2 h4
    ·rw [h4]; exact fun x hx e => by simp [Value.ownBlock] at e
   ·rw [h2]; exact fun x hx => by simp [Value.ownBlock] at hx
abbrev put5 (V : World) (b o : Nat) (z : Rz) : World := ((((V.setCell ⟨b, o, none⟩ (.int .i64 z.1)).setCell ⟨b, o + 1, none⟩ (.int .i64 z.2.1)).setCell ⟨b, o + 2, none⟩ (.int .i64 z.2.2.1)).setCell ⟨b, o + 3, none⟩ (.int .i64 z.2.2.2.1)).setCell ⟨b, o + 4, none⟩ (.int .i64 z.2.2.2.2)
theorem put5_chg (V : World) (b o : Nat) (z : Rz) : Chg (fun x => x = b) V (put5 V b o z) := (((((Chg.refl (fun x => x = b) V).put _ _ (.inr rfl)).put _ _ (.inr rfl)).put _ _ (.inr rfl)).put _ _ (.inr rfl)).put _ _ (.inr rfl)
theorem IW.putOn {b co c : Nat} {z z' : Rz} (h : IW V lo g ga hp hf ⟨some ⟨b, 0, none⟩, co⟩ hr i) (hz : i.on[c]? = some z) : IW (put5 V b (c * 5) z') lo g ga hp hf ⟨some ⟨b, 0, none⟩, co⟩ hr ⟨i.pans, i.forts, i.on.set c z', i.rec_⟩ := by
 have hch := put5_chg V b (c * 5) z'
 have hcl : c < i.on.length := (List.getElem?_eq_some_iff.1 hz).1
 have hop : V.ownsRow 0 76 5 (.slice (some ⟨b, 0, none⟩) i.on.length co) i.on.length (i.on.flatMap z5) := h.on
 have f : ∀ {lo e sz n : Nat} {v : Value} {xs : List Value}, e ≠ 76 → V.ownsRow lo e sz v n xs → (put5 V b (c * 5) z').ownsRow lo e sz v n xs := fun h1 hv =>
  own_chg hv hch (fun x hx e => apart hv hop h1 x hx (by subst e; rfl))
 have hl : (i.on.set c z').length = i.on.length := List.length_set
 refine ⟨?_, own_chg h.pans hch (fun x hx e => h.apt x hx (by subst e; rfl)), h.forts.keep (fun _ hv => f (by decide) hv) (fun _ _ _ hv => f (by decide) hv), ?_, f (by decide) h.rec_, ?_⟩
 ·have := h.blk.chg hch (fun e => blk_apart hop h.blk (by decide) (by subst e; rfl))
  unfold rcells at this ⊢
  dsimp only at this ⊢
  rw [hl]
  exact this
 ·dsimp only
  rw [hl]
  obtain ⟨z0, z1, z2, z3, z4⟩ := z
  obtain ⟨y0, y1, y2, y3, y4⟩ := z'
  have e1 := row_put z5_len hop hz 0 (.int .i64 y0) (y0, z1, z2, z3, z4) (by decide) rfl
  have g1 : ∀ x : Rz, (i.on.set c x)[c]? = some x := fun x => List.getElem?_set_self hcl
  have e2 := row_put z5_len e1 (g1 _) 1 (.int .i64 y1) (y0, y1, z2, z3, z4) (by decide) rfl
  rw [List.set_set] at e2
  have e3 := row_put z5_len e2 (g1 _) 2 (.int .i64 y2) (y0, y1, y2, z3, z4) (by decide) rfl
  rw [List.set_set] at e3
  have e4 := row_put z5_len e3 (g1 _) 3 (.int .i64 y3) (y0, y1, y2, y3, z4) (by decide) rfl
  rw [List.set_set] at e4
  have e5 := row_put z5_len e4 (g1 _) 4 (.int .i64 y4) (y0, y1, y2, y3, y4) (by decide) rfl
  rw [List.set_set] at e5
  exact e5
 ·dsimp only
  rw [hl]
  exact h.apt
theorem IW.putFort {b cf k o : Nat} {y y' : Fo} {u : Int} (h : IW V lo g ga hp ⟨some ⟨b, 0, none⟩, cf⟩ ho hr i) (hy : i.forts[k]? = some y) (ho4 : o < 3) (he : ∀ v, (f4 (y, v)).set o (.int .i64 u) = f4 (y', v)) (hu : y'.unwound = y.unwound) :
  IW (V.setCell ⟨b, k * 4 + o, none⟩ (.int .i64 u)) lo g ga hp ⟨some ⟨b, 0, none⟩, cf⟩ ho hr ⟨i.pans, i.forts.set k y', i.on, i.rec_⟩ := by
 obtain ⟨L, hL, hv, hrow, hapt⟩ := h.forts
 have hch : Chg (fun x => x = b) V (V.setCell ⟨b, k * 4 + o, none⟩ (.int .i64 u)) := (Chg.refl (fun x => x = b) V).put _ _ (.inr rfl)
 have hkl : k < i.forts.length := (List.getElem?_eq_some_iff.1 hy).1
 have hll : L.length = i.forts.length := foLen hL
 have hl : (i.forts.set k y').length = i.forts.length := List.length_set
 have f : ∀ {lo e sz n : Nat} {v : Value} {xs : List Value}, e ≠ 78 → V.ownsRow lo e sz v n xs → (V.setCell ⟨b, k * 4 + o, none⟩ (.int .i64 u)).ownsRow lo e sz v n xs := fun h1 hx =>
  own_chg hx hch (fun x hx' e => apart hx hv h1 x hx' (by subst e; rfl))
 obtain ⟨v, hLk⟩ : ∃ v, L[k]? = some (y, v) := by
  obtain ⟨⟨y1, v⟩, h1⟩ : ∃ s, L[k]? = some s := ⟨_, List.getElem?_eq_getElem (by omega)⟩
  have h2 : (L.map Prod.fst)[k]? = some y1 := by rw [List.getElem?_map, h1]; rfl
  rw [hL, hy] at h2
  obtain rfl : y = y1 := by simpa using h2
  exact ⟨v, h1⟩
 refine ⟨?_, f (by decide) h.pans, ?_, f (by decide) h.on, f (by decide) h.rec_, h.apt⟩
 ·have := h.blk.chg hch (fun e => blk_apart hv h.blk (by decide) (by subst e; rfl))
  unfold rcells at this ⊢
  dsimp only at this ⊢
  rw [hl]
  exact this
 ·dsimp only
  rw [hl]
  refine ⟨L.set k (y', v), by rw [List.map_set, hL], ?_, fun j z u' hj => ?_, fun j m a c hjm ha hc => ?_⟩
  ·rw [hl]
   exact row_put f4_len hv hLk o _ (y', v) (by omega) (he v)
  ·by_cases hjk : k = j
   ·subst hjk
    rw [List.getElem?_set_self (by omega)] at hj
    simp only [Option.some.injEq, Prod.mk.injEq] at hj
    obtain ⟨rfl, rfl⟩ := hj
    obtain ⟨A, cc, e1, e2⟩ := hrow k y v hLk
    rw [hu]
    exact ⟨A, cc, e1, f (by decide) e2⟩
   ·rw [List.getElem?_set_ne hjk] at hj
    obtain ⟨A, cc, e1, e2⟩ := hrow j z u' hj
    exact ⟨A, cc, e1, f (by decide) e2⟩
  ·have key : ∀ (j : Nat) (a : Fo × Value), (L.set k (y', v))[j]? = some a → ∃ a', L[j]? = some a' ∧ a'.2 = a.2 := fun j a ha => by
    by_cases hjk : k = j
    ·subst hjk
     rw [List.getElem?_set_self (by omega)] at ha
     simp only [Option.some.injEq] at ha
     exact ⟨_, hLk, by rw [← ha]⟩
    ·rw [List.getElem?_set_ne hjk] at ha
     exact ⟨a, ha, rfl⟩
   obtain ⟨a', a1, a2⟩ := key j a ha
   obtain ⟨c', c1, c2⟩ := key m c hc
   rw [← a2, ← c2]
   exact hapt j m a' c' hjm a1 c1
theorem IW.putUnw {w1 : World} {b cf k : Nat} {y : Fo} {x : Int} {A A' : Option Addr} {n c c' : Nat} {L : List (Fo × Value)} (h : IW V lo g ga hp ⟨some ⟨b, 0, none⟩, cf⟩ ho hr i) (hy : i.forts[k]? = some y) (hL : L.map Prod.fst = i.forts)
  (hv : V.ownsRow lo 78 4 (.slice (some ⟨b, 0, none⟩) i.forts.length cf) i.forts.length (L.flatMap f4))
  (hrow : ∀ (k : Nat) (y : Fo) (u : Value), L[k]? = some (y, u) → ∃ A c, u = .slice A y.unwound.length c ∧ V.ownsRow lo 3 1 u y.unwound.length (cellsI y.unwound))
  (hapt : ∀ (j k : Nat) (y z : Fo × Value), j ≠ k → L[j]? = some y → L[k]? = some z → Apt y.2 z.2) (hLk : L[k]? = some (y, .slice A n c)) (hn : y.unwound.length = n)
  (hch : Chg (fun x => (Value.slice A n c).ownBlock = some x) V w1) (ht : (Value.slice A' (n + 1) c').ownBlock = (Value.slice A n c).ownBlock ∨ ∀ x, (Value.slice A' (n + 1) c').ownBlock = some x → V.heap.size ≤ x)
  (hnew : w1.ownsRow lo 3 1 (.slice A' (n + 1) c') (n + 1) (cellsI (y.unwound ++ [x]))) :
  IW (w1.setCell ⟨b, k * 4 + 3, none⟩ (.slice A' (n + 1) c')) lo g ga hp ⟨some ⟨b, 0, none⟩, cf⟩ ho hr ⟨i.pans, i.forts.set k { y with unwound := y.unwound ++ [x] }, i.on, i.rec_⟩ := by
 have hkl : k < i.forts.length := (List.getElem?_eq_some_iff.1 hy).1
 have hll : L.length = i.forts.length := foLen hL
 have hl : (i.forts.set k { y with unwound := y.unwound ++ [x] }).length = i.forts.length := List.length_set
 have hold : V.ownsRow lo 3 1 (.slice A n c) n (cellsI y.unwound) := by
  obtain ⟨A0, c0, e1, e2⟩ := hrow k y _ hLk
  rw [hn] at e2
  exact e2
 have hv1 := own_chg hv hch (fun x hx e => apart hv hold (by decide) x hx e)
 have g1 : ∀ {lo e sz m : Nat} {v : Value} {xs : List Value}, e ≠ 3 → V.ownsRow lo e sz v m xs → w1.ownsRow lo e sz v m xs := fun h1 hx =>
  own_chg hx hch (fun x hx' e => apart hx hold h1 x hx' e)
 have f2 : ∀ {lo e sz m : Nat} {v : Value} {xs : List Value} (u : Value), e ≠ 78 → w1.ownsRow lo e sz v m xs → (w1.setCell ⟨b, k * 4 + 3, none⟩ u).ownsRow lo e sz v m xs := fun u h1 hx =>
  own_far hx _ _ (fun e => apart hx hv1 h1 b e rfl)
 have hb1 := h.blk.chg hch (fun e => blk_apart hold h.blk (by decide) e)
 refine ⟨?_, f2 _ (by decide) (g1 (by decide) h.pans), ?_, f2 _ (by decide) (g1 (by decide) h.on), f2 _ (by decide) (g1 (by decide) h.rec_), h.apt⟩
 ·have := hb1.far ⟨b, k * 4 + 3, none⟩ (.slice A' (n + 1) c') (fun e => blk_apart hv1 hb1 (by decide) (by show some b = some g; exact congrArg some e.symm))
  unfold rcells at this ⊢
  dsimp only at this ⊢
  rw [hl]
  exact this
 ·dsimp only
  rw [hl]
  refine ⟨L.set k ({ y with unwound := y.unwound ++ [x] }, .slice A' (n + 1) c'), by rw [List.map_set, hL], ?_, fun j z u' hj => ?_, fun j m a d hjm ha hd => ?_⟩
  ·rw [hl]
   exact row_put f4_len hv1 hLk 3 _ ({ y with unwound := y.unwound ++ [x] }, .slice A' (n + 1) c') (by decide) rfl
  ·by_cases hjk : k = j
   ·subst hjk
    rw [List.getElem?_set_self (by omega)] at hj
    simp only [Option.some.injEq, Prod.mk.injEq] at hj
    obtain ⟨rfl, rfl⟩ := hj
    have hln : (y.unwound ++ [x]).length = n + 1 := by rw [List.length_append, List.length_singleton, hn]
    dsimp only
    rw [hln]
    exact ⟨A', c', rfl, f2 _ (by decide) hnew⟩
   ·rw [List.getElem?_set_ne hjk] at hj
    obtain ⟨A1, cc, e1, e2⟩ := hrow j z u' hj
    exact ⟨A1, cc, e1, f2 _ (by decide) (own_chg e2 hch (fun x hx e => hapt j k _ _ (Ne.symm hjk) hj hLk x hx e))⟩
  ·have old : ∀ (j : Nat) (a : Fo × Value), k ≠ j → L[j]? = some a → Apt a.2 (.slice A' (n + 1) c') ∧ Apt (.slice A' (n + 1) c') a.2 := fun j a hjk ha => by
    have h1 := hapt j k _ _ (Ne.symm hjk) ha hLk
    have h2 := hapt k j _ _ hjk hLk ha
    obtain ⟨A1, cc, e1, e2⟩ := hrow j a.1 a.2 ha
    rcases ht with ht | ht
    ·exact ⟨fun q hq hq' => h1 q hq (by rw [← ht]; exact hq'), fun q hq hq' => h2 q (by rw [← ht]; exact hq) hq'⟩
    ·exact ⟨fun q hq hq' => by have := ht q hq'; have := (World.ownsRow.lt e2 q hq).2; omega, fun q hq hq' => by have := ht q hq; have := (World.ownsRow.lt e2 q hq').2; omega⟩
   by_cases hjk : k = j
   ·subst hjk
    rw [List.getElem?_set_self (by omega)] at ha
    rw [List.getElem?_set_ne hjm] at hd
    simp only [Option.some.injEq] at ha
    rw [← ha]
    exact (old m d hjm hd).2
   ·rw [List.getElem?_set_ne hjk] at ha
    by_cases hmk : k = m
    ·subst hmk
     rw [List.getElem?_set_self (by omega)] at hd
     simp only [Option.some.injEq] at hd
     rw [← hd]
     exact (old j a hjk ha).1
    ·rw [List.getElem?_set_ne hmk] at hd
     exact hapt j m a d hjm ha hd
end
end Go.Proofs.Ytgcjlkdahlfjlaa.Ipm
-- squeezed
