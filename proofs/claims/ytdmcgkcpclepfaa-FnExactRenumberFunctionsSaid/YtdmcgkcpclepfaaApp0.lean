import Derived.Test.YtdmcgkcpclepfaaMem
import Derived.Deep.Upon
import Derived.Deep.Onto
import Derived.StillTailTactics
set_option linter.all false
namespace Go.Proofs.Ytdmcgkcpclepfaa.App
open Go.ChangeShapes Go.WideShapes Go.ChangeAt Go.RowKit
open PL Mem
section
variable {P : Program} (w : World)
theorem row_run (base base' : Nat) (t ty e : TypeId) (i : TypeInfo) (z : Value) (size bytes : Nat) (ht : P.underlying t = some (.slice e)) (hi : P.info? e = some i) (hz : i.zero = some z)
  (hsize : i.size = size) (hby : i.bytes = bytes) (hzs : z.cells.size = size) (hsz : 0 < size)
  (v : Value) (n : Nat) (xs : List Value) (hv : w.ownsRow base e size v n xs) (x : Value) (m : Nat) (ys : List Value) (hx : w.ownsRow base' e size x m ys) (h1 : ∀ u ∈ ys, u.oneCell' = true)
  (h63 : n + m ≤ maxLen) (hbytes : (n + m) * bytes ≤ 140737488355328) (hbase : base ≤ w.heap.size) :
  ∃ v' w', (Builtin.append_ #[t, t] ty #[v, x]).run P w = .ok v' w' ∧ w'.ownsRow base e size v' (n + m) (xs ++ ys) ∧ w.grownBy w' v.ownBlock ∧ (v'.ownBlock = v.ownBlock ∨ v'.ownBlock = some w.heap.size) := by
 rcases hx.2 with ⟨rfl, rfl⟩ | ⟨g, cap, cur, rfl, _, _, _, _, _, _⟩
 ·have hy : ys = [] := List.eq_nil_of_length_eq_zero (by simpa using hx.1)
  subst hy
  refine ⟨v, w, ?_, by simpa using hv, World.grownBy.refl w _, .inl rfl⟩
  rcases hv.2 with ⟨rfl, rfl⟩ | ⟨g, cap, cur, rfl, _, _, hc, _⟩
  ·exact run_append_nothing w t t ty e i ht hi none 0 0 (Nat.le_refl _) _ (Src.ofNil w ht 0)
  ·exact run_append_nothing w t t ty e i ht hi _ n cap hc _ (Src.ofNil w ht 0)
 ·obtain ⟨v', w', hr, h2, h3, _, h5⟩ := run_append_own_at (P := P) w base t ty e i z size bytes ht hi hz hsize hby hzs hsz v n xs hv ⟨g, 0, none⟩ m cap ys hx.1 (hx.cells rfl) h1 h63 hbytes hbase
  exact ⟨v', w', hr, h2, h3, h5⟩
theorem row_wp {o : Oper} {a : Act} {K : Act → World → Prop} {Q : Exit → Act → World → Prop} (s x : Operand) (t : TypeId)
  (ho : o.op = .call { callee := .builtin .append, args := #[s, x], argTypes := #[t, t] })
  (base base' : Nat) (e : TypeId) (i : TypeInfo) (z : Value) (size bytes : Nat) (ht : P.underlying t = some (.slice e)) (hi : P.info? e = some i) (hz : i.zero = some z)
  (hsize : i.size = size) (hby : i.bytes = bytes) (hzs : z.cells.size = size) (hsz : 0 < size)
  (v : Value) (n : Nat) (xs : List Value) (hs : a.eval s = v) (hv : w.ownsRow base e size v n xs) (y : Value) (m : Nat) (ys : List Value) (hxy : a.eval x = y) (hy : w.ownsRow base' e size y m ys) (h1 : ∀ u ∈ ys, u.oneCell' = true)
  (h63 : n + m ≤ maxLen) (hbytes : (n + m) * bytes ≤ 140737488355328) (hbase : base ≤ w.heap.size)
  (h : ∀ v' w', w'.ownsRow base e size v' (n + m) (xs ++ ys) → w.grownBy w' v.ownBlock → (v'.ownBlock = v.ownBlock ∨ v'.ownBlock = some w.heap.size) → K (a.put o.dst v') w') : o.wp P a w K Q := by
 obtain ⟨v', w', hr, h2, h3, h4⟩ := row_run (P := P) w base base' t o.type e i z size bytes ht hi hz hsize hby hzs hsz v n xs hv y m ys hy h1 h63 hbytes hbase
 unfold Oper.wp execOp
 simp only [ho, resolve, invoke, builtin, Sem.run_bind, Sem.run_pure, Result.andThen_ok, List.map_toArray, List.map_cons, List.map_nil, hs, hxy, hr]
 exact h v' w' h2 h3 h4
theorem row_list {ops : Array Oper} {rest : List Oper} {o : Oper} {a : Act} {Q : Exit → Act → World → Prop} (hgd : o.guard = none) (s x : Operand) (t : TypeId)
  (ho : o.op = .call { callee := .builtin .append, args := #[s, x], argTypes := #[t, t] })
  (base base' : Nat) (e : TypeId) (i : TypeInfo) (z : Value) (size bytes : Nat) (ht : P.underlying t = some (.slice e)) (hi : P.info? e = some i) (hz : i.zero = some z)
  (hsize : i.size = size) (hby : i.bytes = bytes) (hzs : z.cells.size = size) (hsz : 0 < size)
  (v : Value) (n : Nat) (xs : List Value) (hs : a.eval s = v) (hv : w.ownsRow base e size v n xs) (y : Value) (m : Nat) (ys : List Value) (hxy : a.eval x = y) (hy : w.ownsRow base' e size y m ys) (h1 : ∀ u ∈ ys, u.oneCell' = true)
  (h63 : n + m ≤ maxLen) (hbytes : (n + m) * bytes ≤ 140737488355328) (hbase : base ≤ w.heap.size)
  (h : ∀ v' w', w'.ownsRow base e size v' (n + m) (xs ++ ys) → w.grownBy w' v.ownBlock → (v'.ownBlock = v.ownBlock ∨ v'.ownBlock = some w.heap.size) → wpList P ops Q rest (a.put o.dst v') w') : wpList P ops Q (o :: rest) a w :=
 wpList_plain hgd fun _ hK => row_wp w s x t ho base base' e i z size bytes ht hi hz hsize hby hzs hsz v n xs hs hv y m ys hxy hy h1 h63 hbytes hbase fun v' w' h2 h3 h4 => hK _ _ (h v' w' h2 h3 h4)
theorem row_step {ops : Array Oper} {o : Oper} {a : Act} {K : Act → World → Prop} {Q : Exit → Act → World → Prop} {E : Prop} (hgd : o.guard = none) (s x : Operand) (t : TypeId)
  (ho : o.op = .call { callee := .builtin .append, args := #[s, x], argTypes := #[t, t] })
  (base base' : Nat) (e : TypeId) (i : TypeInfo) (z : Value) (size bytes : Nat) (ht : P.underlying t = some (.slice e)) (hi : P.info? e = some i) (hz : i.zero = some z)
  (hsize : i.size = size) (hby : i.bytes = bytes) (hzs : z.cells.size = size) (hsz : 0 < size)
  (v : Value) (n : Nat) (xs : List Value) (hs : a.eval s = v) (hv : w.ownsRow base e size v n xs) (y : Value) (m : Nat) (ys : List Value) (hxy : a.eval x = y) (hy : w.ownsRow base' e size y m ys) (h1 : ∀ u ∈ ys, u.oneCell' = true)
  (h63 : n + m ≤ maxLen) (hbytes : (n + m) * bytes ≤ 140737488355328) (hbase : base ≤ w.heap.size)
  (h : ∀ v' w', w'.ownsRow base e size v' (n + m) (xs ++ ys) → w.grownBy w' v.ownBlock → (v'.ownBlock = v.ownBlock ∨ v'.ownBlock = some w.heap.size) → K (a.put o.dst v') w') :
  if Region.wanted o (yielded ops a.tmps) = true then Oper.wp P o a w K Q else E := by
 have hw : Region.wanted o (yielded ops a.tmps) = true := by simp [Region.wanted, hgd]
 rw [if_pos hw]
 exact row_wp w s x t ho base base' e i z size bytes ht hi hz hsize hby hzs hsz v n xs hs hv y m ys hxy hy h1 h63 hbytes hbase h
end
theorem empty_own {V : World} {g e size : Nat} {base : Nat} (h : V.heap[g]? = some (.cells #[] e)) (hb : base ≤ g) : V.ownsRow base e size (.slice (some ⟨g, 0, none⟩) 0 0) 0 [] :=
 ⟨by simp, .inr ⟨g, 0, #[], rfl, hb, h, Nat.le_refl _, by decide, by simp, by simp⟩⟩
theorem pair_own {V : World} {g e : Nat} {x y : Value} (h : V.heap[g]? = some (.cells #[x, y] e)) : V.ownsRow 0 e 2 (.slice (some ⟨g, 0, none⟩) 1 1) 1 [x, y] :=
 ⟨by simp, .inr ⟨g, 1, #[x, y], rfl, Nat.zero_le _, h, Nat.le_refl _, by decide, by simp, by simp⟩⟩
def Bl (W V : World) : Prop := Below W.heap.size W V
theorem Bl.refl (W : World) : Bl W W := Below.refl _ _
theorem Bl.alloc {W V : World} (h : Bl W V) (o : Obj) : Bl W (V.alloc o) := Below.alloc h h.size o
theorem Bl.drew {W V : World} (h : Bl W V) : Bl W V.drew := Below.drew h
theorem Bl.grown {W V V' : World} {row : Option Nat} (h : Bl W V) (hg : V.grownBy V' row) (hr : ∀ k, row = some k → W.heap.size ≤ k) : Bl W V' := Below.grown h hg h.size hr
theorem own_ne {V : World} {B e sz n B' e' sz' n' : Nat} {v v' : Value} {xs xs' : List Value} (h : V.ownsRow B e sz v n xs) (h' : V.ownsRow B' e' sz' v' n' xs') (hne : e ≠ e') {k : Nat} (hk : v.ownBlock = some k) : v'.ownBlock ≠ some k := by
 intro hk'
 rcases h.2 with ⟨rfl, _⟩ | ⟨g1, c1, cur1, rfl, _, hh1, _⟩
 ·cases hk
 ·rcases h'.2 with ⟨rfl, _⟩ | ⟨g2, c2, cur2, rfl, _, hh2, _⟩
  ·cases hk'
  ·obtain rfl : g1 = k := by simpa [Value.ownBlock] using hk
   obtain rfl : g2 = g1 := by simpa [Value.ownBlock] using hk'
   rw [hh1] at hh2
   injection hh2 with hh2
   injection hh2 with _ ht
   exact hne ht
theorem own_blk_ne {V : World} {B e sz n g : Nat} {t : TypeId} {v : Value} {xs : List Value} {cs : Array Value} (h : V.ownsRow B e sz v n xs) (hg : Blk V g t cs) (hne : e ≠ t) : v.ownBlock ≠ some g := by
 intro hk
 rcases h.2 with ⟨rfl, _⟩ | ⟨g1, c1, cur1, rfl, _, hh1, _⟩
 ·cases hk
 ·obtain rfl : g1 = g := by simpa [Value.ownBlock] using hk
  unfold Blk at hg
  rw [hh1] at hg
  injection hg with hg
  injection hg with _ ht
  exact hne ht
theorem one_own {V : World} {g e : Nat} {x : Value} (h : V.heap[g]? = some (.cells #[x] e)) : V.ownsRow 0 e 1 (.slice (some ⟨g, 0, none⟩) 1 1) 1 [x] :=
 ⟨by simp, .inr ⟨g, 1, #[x], rfl, Nat.zero_le _, h, Nat.le_refl _, by decide, by simp, by simp⟩⟩
theorem Chg.of_grown' {C : Nat → Prop} {a b : World} {row : Option Nat} (h : a.grownBy b row) (hC : ∀ k, row = some k → C k) : Chg C a b := (Chg.of_grown h).mono fun k _ e => hC k e.symm
end Go.Proofs.Ytdmcgkcpclepfaa.App
-- squeezed
