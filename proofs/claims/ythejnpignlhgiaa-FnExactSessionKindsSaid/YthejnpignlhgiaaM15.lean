import Derived.Test.YthejnpignlhgiaaM3
import Derived.Recover
import Derived.Deep.AppendLies
import Derived.IntWalk
import Derived.WalkLawsBesides
import Derived.Deep.RegionWith
import Derived.Deep.QuietTactic
set_option linter.all false
namespace Go.Proofs.Ythejnpignlhgiaa.Imem
open Go.ChangeShapes Go.WideShapes Go.ChangeAt Go.RowKit
open PL Mem Srun Sst
def icells (vp : Value) (fuel : Int) (m : M) (op : Int) (tv : Value) : Array Value := #[vp, .int .i64 fuel, .int .i64 m.made, .int .i64 op, .int .i64 m.shared, tv]
def ccells (c : Fr) (rp dv : Value) (k v : Int) : Array Value :=
 #[.int .i64 c.f, .int .i64 c.r0, .int .i64 c.r1, .int .i64 c.r2, .int .i64 c.r3, rp, dv, .int .i64 k, .int .i64 v, .bool c.leaving, .bool c.recovered]
theorem ccells_reg (c : Fr) (rp dv : Value) (k v a : Int) (h0 : 0 ≤ a) (h3 : a < 4) : (ccells c rp dv k v)[1 + a.toNat]? = some (.int .i64 (reg c a)) := by
 have h4 : a = 0 ∨ a = 1 ∨ a = 2 ∨ a = 3 := by omega
 rcases h4 with rfl | rfl | rfl | rfl <;> rfl
theorem ccells_set (c : Fr) (rp dv : Value) (k v a u : Int) (h0 : 0 ≤ a) (h3 : a < 4) : (ccells c rp dv k v).setIfInBounds (1 + a.toNat) (.int .i64 u) = ccells (setReg c a u) rp dv k v := by
 have h4 : a = 0 ∨ a = 1 ∨ a = 2 ∨ a = 3 := by omega
 rcases h4 with rfl | rfl | rfl | rfl <;> simp [ccells, setReg]
def Dfs (w : World) (lo : Nat) (v : Value) (l : List (Int × Int)) : Prop := w.ownsRow lo 196 2 v l.length (cells2 l)
structure RD where
 b : Nat
 c : Fr
 rp : Value
 dv : Value
 k : Int
 v : Int
def rptr : Option RD → Value
 | none => .pointer none
 | some d => .pointer (some ⟨d.b, 0, none⟩)
def rblk (rd : Option RD) (x : Nat) : Prop := ∃ d, rd = some d ∧ x = d.b
def RunB (W : World) (out : Int) (rd : Option RD) : Prop := ∀ d, rd = some d → Blk W d.b 186 (ccells { d.c with r1 := out } d.rp d.dv d.k d.v)
def RunF (c : Fr) : Option RD → Prop
 | none => c.deferred = false ∧ c.panicking = false
 | some d => c.deferred = true ∧ c.panicking = decide (d.k = 2) ∧ (d.k = 2 → d.v = c.panic)
structure Bs where
 w : World
 X : Nat → Prop
instance : Coe World Bs := ⟨fun w => ⟨w, fun _ => False⟩⟩
def Nw (w : Bs) (x : Nat) : Prop := w.w.heap.size ≤ x ∨ w.X x
structure Ilf (w : Bs) (lo mb : Nat) (vp : Value) (fuel : Int) (tv0 : Value) (rd : Option RD) (tv : Value) (op : Int) (m : M) (W : World) : Prop where
 tre : Tre W lo tv m.trace
 mach : Blk W mb 104 (icells vp fuel m op tv)
 chg : Chg (fun x => x = mb ∨ tv0.ownBlock = some x ∨ rblk rd x ∨ w.X x) w.w W
 ft : ∀ x, tv.ownBlock = some x → tv0.ownBlock = some x ∨ w.w.heap.size ≤ x
structure Bse (w : Bs) (lo mb : Nat) (tv0 : Value) (rd : Option RD) : Prop where
 l0 : lo ≤ w.w.heap.size
 m0 : lo ≤ mb
 m1 : mb < w.w.heap.size
 r0 : ∀ d, rd = some d → lo ≤ d.b
 r1 : ∀ d, rd = some d → d.b < w.w.heap.size
 t0 : ∀ x, tv0.ownBlock = some x → lo ≤ x
 x0 : ∀ x, w.X x → lo ≤ x
structure Ist (w : Bs) (lo mb cb : Nat) (vp : Value) (fuel : Int) (tv0 : Value) (rd : Option RD) (tv dv : Value) (op : Int) (m : M) (c : Fr) (k v : Int) (W : World) : Prop where
 l : Ilf w lo mb vp fuel tv0 rd tv op m W
 b : Bse w lo mb tv0 rd
 dfs : Dfs W lo dv c.defers
 fd : ∀ x, dv.ownBlock = some x → Nw w x
 blk : Blk W cb 186 (ccells c (rptr rd) dv k v)
 h0 : Nw w cb
 nr : ∀ d, rd = some d → d.b ≠ cb
 runB : RunB W c.outer rd
 runF : RunF c rd
section
variable {w : Bs} {W W' : World} {lo mb cb : Nat} {vp : Value} {fuel : Int} {tv0 : Value} {rd : Option RD} {tv dv tv' dv' : Value} {op op' : Int} {m m' : M} {c c' : Fr} {k v k' v' : Int}
theorem ne_blk {g g' t t' : Nat} {cs cs' : Array Value} (h : Blk W g t cs) (h' : Blk W g' t' cs') (hne : t ≠ t') : g ≠ g' := by
 rintro rfl
 unfold Blk at h h'
 rw [h] at h'
 injection h' with h'
 injection h' with _ ht
 exact hne ht
theorem Ist.ncm (h : Ist w lo mb cb vp fuel tv0 rd tv dv op m c k v W) : cb ≠ mb := ne_blk h.blk h.l.mach (by decide)
theorem Ist.ncr (h : Ist w lo mb cb vp fuel tv0 rd tv dv op m c k v W) : ∀ d, rd = some d → d.b ≠ cb := h.nr
theorem Ist.nmr (h : Ist w lo mb cb vp fuel tv0 rd tv dv op m c k v W) : ∀ d, rd = some d → d.b ≠ mb := fun d hd => ne_blk (h.runB d hd) h.l.mach (by decide)
theorem Ist.below (h : Ist w lo mb cb vp fuel tv0 rd tv dv op m c k v W) : Below lo w.w W :=
 h.l.chg.below h.b.l0 (fun x hx hc => by
  rcases hc with rfl | hc | ⟨d, hd, rfl⟩ | hc
  ·have := h.b.m0; omega
  ·have := h.b.t0 x hc; omega
  ·have := h.b.r0 d hd; omega
  ·have := h.b.x0 x hc; omega)
theorem Ist.size (h : Ist w lo mb cb vp fuel tv0 rd tv dv op m c k v W) : w.w.heap.size ≤ W.heap.size := h.l.chg.size
theorem Ist.loW (h : Ist w lo mb cb vp fuel tv0 rd tv dv op m c k v W) : lo ≤ W.heap.size := Nat.le_trans h.b.l0 h.size
theorem Ist.ntm (h : Ist w lo mb cb vp fuel tv0 rd tv dv op m c k v W) : tv.ownBlock ≠ some mb := blk_apart h.l.tre h.l.mach (by decide)
theorem Ist.ntc (h : Ist w lo mb cb vp fuel tv0 rd tv dv op m c k v W) : tv.ownBlock ≠ some cb := blk_apart h.l.tre h.blk (by decide)
theorem Ist.ntr (h : Ist w lo mb cb vp fuel tv0 rd tv dv op m c k v W) : ∀ d, rd = some d → tv.ownBlock ≠ some d.b := fun d hd => blk_apart h.l.tre (h.runB d hd) (by decide)
theorem Ist.ndm (h : Ist w lo mb cb vp fuel tv0 rd tv dv op m c k v W) : dv.ownBlock ≠ some mb := blk_apart h.dfs h.l.mach (by decide)
theorem Ist.ndc (h : Ist w lo mb cb vp fuel tv0 rd tv dv op m c k v W) : dv.ownBlock ≠ some cb := blk_apart h.dfs h.blk (by decide)
theorem Ist.ndr (h : Ist w lo mb cb vp fuel tv0 rd tv dv op m c k v W) : ∀ d, rd = some d → dv.ownBlock ≠ some d.b := fun d hd => blk_apart h.dfs (h.runB d hd) (by decide)
theorem Ist.alloc (h : Ist w lo mb cb vp fuel tv0 rd tv dv op m c k v W) (o : Obj) : Ist w lo mb cb vp fuel tv0 rd tv dv op m c k v (W.alloc o) :=
 ⟨⟨World.ownsRow.alloc h.l.tre o, h.l.mach.alloc o, h.l.chg.new o, h.l.ft⟩, h.b, World.ownsRow.alloc h.dfs o, h.fd, h.blk.alloc o, h.h0, h.nr, fun d hd => (h.runB d hd).alloc o, h.runF⟩
theorem Ist.drew (h : Ist w lo mb cb vp fuel tv0 rd tv dv op m c k v W) : Ist w lo mb cb vp fuel tv0 rd tv dv op m c k v W.drew :=
 ⟨⟨h.l.tre, h.l.mach, ⟨h.l.chg.os, h.l.chg.tape, h.l.chg.output, h.l.chg.size, h.l.chg.block⟩, h.l.ft⟩, h.b, h.dfs, h.fd, h.blk, h.h0, h.nr, h.runB, h.runF⟩
theorem Ist.as (h : Ist w lo mb cb vp fuel tv0 rd tv dv op m c k v W) (h1 : c'.defers = c.defers) (h2 : c'.outer = c.outer) (h3 : c'.deferred = c.deferred ∧ c'.panicking = c.panicking ∧ c'.panic = c.panic)
  (h4 : ccells c (rptr rd) dv k v = ccells c' (rptr rd) dv k v) : Ist w lo mb cb vp fuel tv0 rd tv dv op m c' k v W :=
 ⟨h.l, h.b, h1 ▸ h.dfs, h.fd, h4 ▸ h.blk, h.h0, h.nr, h2 ▸ h.runB, by
  have := h.runF
  cases rd with
  | none => unfold RunF at *; rw [h3.1, h3.2.1]; exact this
  | some d => unfold RunF at *; rw [h3.1, h3.2.1, h3.2.2]; exact this⟩
theorem Ist.putc (h : Ist w lo mb cb vp fuel tv0 rd tv dv op m c k v W) (i : Nat) (u : Value) (hs : (ccells c (rptr rd) dv k v).setIfInBounds i u = ccells c' (rptr rd) dv k' v')
  (h1 : c'.defers = c.defers) (h2 : c'.outer = c.outer) (h3 : c'.deferred = c.deferred ∧ c'.panicking = c.panicking ∧ c'.panic = c.panic) : Ist w lo mb cb vp fuel tv0 rd tv dv op m c' k' v' (W.setCell ⟨cb, i, none⟩ u) :=
 ⟨⟨own_far h.l.tre _ _ h.ntc, h.l.mach.far _ _ h.ncm.symm, h.l.chg.put _ _ (h.h0.imp id fun e => .inr (.inr (.inr e))), h.l.ft⟩, h.b, h1 ▸ own_far h.dfs _ _ h.ndc, h.fd, hs ▸ h.blk.put i u, h.h0, h.nr, fun d hd => by rw [h2]; exact (h.runB d hd).far _ _ (h.ncr d hd), by
  have := h.runF
  cases rd with
  | none => unfold RunF at *; rw [h3.1, h3.2.1]; exact this
  | some d => unfold RunF at *; rw [h3.1, h3.2.1, h3.2.2]; exact this⟩
theorem Ist.putm (h : Ist w lo mb cb vp fuel tv0 rd tv dv op m c k v W) (i : Nat) (u : Value) (hs : (icells vp fuel m op tv).setIfInBounds i u = icells vp fuel m' op' tv) (ht : m'.trace = m.trace) :
  Ist w lo mb cb vp fuel tv0 rd tv dv op' m' c k v (W.setCell ⟨mb, i, none⟩ u) :=
 ⟨⟨ht ▸ own_far h.l.tre _ _ h.ntm, hs ▸ h.l.mach.put i u, h.l.chg.put _ _ (.inr (.inl rfl)), h.l.ft⟩, h.b, own_far h.dfs _ _ h.ndm, h.fd, h.blk.far _ _ h.ncm, h.h0, h.nr, fun d hd => (h.runB d hd).far _ _ (h.nmr d hd), h.runF⟩
theorem Ist.puto {d : RD} (h : Ist w lo mb cb vp fuel tv0 (some d) tv dv op m c k v W) (u : Int) :
  Ist w lo mb cb vp fuel tv0 (some d) tv dv op m { c with outer := u } k v (W.setCell ⟨d.b, 2, none⟩ (.int .i64 u)) :=
 ⟨⟨own_far h.l.tre _ _ (h.ntr d rfl), h.l.mach.far _ _ (h.nmr d rfl).symm, h.l.chg.put _ _ (.inr (.inr (.inr (.inl ⟨d, rfl, rfl⟩)))), h.l.ft⟩, h.b, own_far h.dfs _ _ (h.ndr d rfl), h.fd, h.blk.far _ _ (h.ncr d rfl).symm, h.h0, h.nr,
  fun d' hd => by
   obtain rfl : d = d' := by simpa using hd
   have := (h.runB d rfl).put 2 (.int .i64 u)
   simpa [ccells] using this, h.runF⟩
theorem Ist.told (h : Ist w lo mb cb vp fuel tv0 rd tv dv op m c k v W) (h1 : Tre W' lo tv' m'.trace) (h2 : Blk W' mb 104 (icells vp fuel m' op' tv')) (h3 : Chg (fun x => x = mb ∨ tv.ownBlock = some x) W W')
  (h4 : ∀ x, tv'.ownBlock = some x → tv.ownBlock = some x ∨ W.heap.size ≤ x) : Ist w lo mb cb vp fuel tv0 rd tv' dv op' m' c k v W' :=
 ⟨⟨h1, h2, h.l.chg.trans h3 (fun x hx hc => by
   rcases hc with rfl | hc
   ·exact .inl rfl
   ·rcases h.l.ft x hc with e | e
    ·exact .inr (.inl e)
    ·omega), fun x hx => by
   rcases h4 x hx with e | e
   ·exact h.l.ft x e
   ·have := h.size; exact .inr (by omega)⟩, h.b,
  own_chg h.dfs h3 (fun x hx hc => by
   rcases hc with rfl | hc
   ·exact h.ndm hx
   ·exact apart h.dfs h.l.tre (by decide) x hx hc), h.fd,
  h.blk.chg h3 (fun hc => by
   rcases hc with e | hc
   ·exact h.ncm e
   ·exact h.ntc hc), h.h0, h.nr, fun d hd => (h.runB d hd).chg h3 (fun hc => by
   rcases hc with e | hc
   ·exact h.nmr d hd e
   ·exact h.ntr d hd hc), h.runF⟩
theorem Ist.dfr (h : Ist w lo mb cb vp fuel tv0 rd tv dv op m c k v W) {l : List (Int × Int)} (h1 : Dfs W' lo dv' l) (h3 : Chg (fun x => dv.ownBlock = some x) W W') (h4 : ∀ x, dv'.ownBlock = some x → dv.ownBlock = some x ∨ W.heap.size ≤ x) :
  Ist w lo mb cb vp fuel tv0 rd tv dv' op m { c with defers := l } k v (W'.setCell ⟨cb, 6, none⟩ dv') := by
 have b1 := h.blk.chg h3 h.ndc
 have a1 := blk_apart h1 b1 (by decide)
 have t1 : Tre W' lo tv m.trace := own_chg h.l.tre h3 (fun x hx hc => apart h.dfs h.l.tre (by decide) x hc hx)
 have m1 := h.l.mach.chg h3 h.ndm
 refine ⟨⟨own_far t1 _ _ (blk_apart t1 b1 (by decide)), m1.far _ _ (ne_blk m1 b1 (by decide)), (h.l.chg.trans h3 (fun x hx hc => ?_)).put _ _ (h.h0.imp id fun e => .inr (.inr (.inr e))), h.l.ft⟩, h.b, own_far h1 _ _ a1, fun x hx => ?_, ?_, h.h0, h.nr, fun d hd => ((h.runB d hd).chg h3 (h.ndr d hd)).far _ _ (h.ncr d hd), ?_⟩
 ·rcases h.fd x hc with e | e
  ·omega
  ·exact .inr (.inr (.inr e))
 ·rcases h4 x hx with e | e
  ·exact h.fd x e
  ·have := h.size; exact .inl (by omega)
 ·have := b1.put 6 dv'
  simpa [ccells] using this
 ·have := h.runF
  cases rd with
  | none => exact this
  | some d => exact this
theorem Ist.called (h : Ist w lo mb cb vp fuel tv0 rd tv dv op m c k v W) (g : Ilf (W : World) lo mb vp fuel tv none tv' op' m' W') : Ist w lo mb cb vp fuel tv0 rd tv' dv op' m' c k v W' :=
 h.told g.tre g.mach (g.chg.mono (fun x _ hx => by
  rcases hx with e | e | ⟨d, hd, _⟩ | e
  ·exact .inl e
  ·exact .inr e
  ·cases hd
  ·exact e.elim)) g.ft
theorem Ist.ran (h : Ist w lo mb cb vp fuel tv0 rd tv dv op m c k v W) {d : RD} (hd : d.b = cb) (g : Ilf (W : World) lo mb vp fuel tv (some d) tv' op' m' W') {out : Int} (hb : Blk W' cb 186 (ccells { c with r1 := out } (rptr rd) dv k v)) :
  Ist w lo mb cb vp fuel tv0 rd tv' dv op' m' { c with r1 := out } k v W' := by
 subst hd
 refine ⟨⟨g.tre, g.mach, h.l.chg.trans g.chg (fun x hx hc => ?_), fun x hx => ?_⟩, h.b, own_chg h.dfs g.chg (fun x hx hc => ?_), h.fd, hb, h.h0, h.nr, fun d' hd' => (h.runB d' hd').chg g.chg (fun hc => ?_), ?_⟩
 ·rcases hc with rfl | hc | ⟨d', e, rfl⟩ | hc
  ·exact .inl rfl
  ·rcases h.l.ft x hc with e | e
   ·exact .inr (.inl e)
   ·omega
  ·obtain rfl : d = d' := by simpa using e
   rcases h.h0 with e | e
   ·omega
   ·exact .inr (.inr (.inr e))
  ·exact hc.elim
 ·rcases g.ft x hx with e | e
  ·exact h.l.ft x e
  ·have := h.size; exact .inr (by show w.w.heap.size ≤ x; exact Nat.le_trans this e)
 ·rcases hc with rfl | hc | ⟨d', e, rfl⟩ | hc
  ·exact h.ndm hx
  ·exact apart h.dfs h.l.tre (by decide) x hx hc
  ·obtain rfl : d = d' := by simpa using e
   exact h.ndc hx
  ·exact hc.elim
 ·rcases hc with e | hc | ⟨d2, e, e2⟩ | hc
  ·exact h.nmr d' hd' e
  ·exact h.ntr d' hd' hc
  ·obtain rfl : d = d2 := by simpa using e
   exact h.ncr d' hd' e2
  ·exact hc.elim
 ·have := h.runF
  cases rd with
  | none => exact this
  | some d => exact this
theorem Ist.lran (h : Ist w lo mb cb vp fuel tv0 rd tv dv op m c k v W) {d : RD} (hd : d.b = cb) (g : Ilf (W : World) lo mb vp fuel tv (some d) tv' op' m' W') : Ilf w lo mb vp fuel tv0 rd tv' op' m' W' := by
 subst hd
 refine ⟨g.tre, g.mach, h.l.chg.trans g.chg (fun x hx hc => ?_), fun x hx => ?_⟩
 ·rcases hc with rfl | hc | ⟨d', e, rfl⟩ | hc
  ·exact .inl rfl
  ·rcases h.l.ft x hc with e | e
   ·exact .inr (.inl e)
   ·omega
  ·obtain rfl : d = d' := by simpa using e
   rcases h.h0 with e | e
   ·omega
   ·exact .inr (.inr (.inr e))
  ·exact hc.elim
 ·rcases g.ft x hx with e | e
  ·exact h.l.ft x e
  ·have := h.size; exact .inr (by show w.w.heap.size ≤ x; exact Nat.le_trans this e)
def own2 (cb : Nat) (dv : Value) (W : World) : Bs := ⟨W, fun x => x = cb ∨ dv.ownBlock = some x⟩
theorem Ist.lo_cb (h : Ist w lo mb cb vp fuel tv0 rd tv dv op m c k v W) : lo ≤ cb := by
 rcases h.h0 with e | e
 ·exact Nat.le_trans h.b.l0 e
 ·exact h.b.x0 _ e
theorem Ist.here (h : Ist w lo mb cb vp fuel tv0 rd tv dv op m c k v W) : Ist (own2 cb dv W) lo mb cb vp fuel tv rd tv dv op m c k v W :=
 ⟨⟨h.l.tre, h.l.mach, Chg.refl _ _, fun x hx => .inl hx⟩, ⟨h.loW, h.b.m0, Nat.lt_of_lt_of_le h.b.m1 h.size, h.b.r0, fun d hd => Nat.lt_of_lt_of_le (h.b.r1 d hd) h.size, fun x hx => (World.ownsRow.lt h.l.tre x hx).1, fun x hx => by
  rcases hx with rfl | hx
  ·exact h.lo_cb
  ·exact (World.ownsRow.lt h.dfs x hx).1⟩, h.dfs, fun x hx => .inr (.inr hx), h.blk, .inr (.inl rfl), h.nr, h.runB, h.runF⟩
theorem Ist.lback (h : Ist w lo mb cb vp fuel tv0 rd tv dv op m c k v W) (g : Ilf (own2 cb dv W) lo mb vp fuel tv rd tv' op' m' W') : Ilf w lo mb vp fuel tv0 rd tv' op' m' W' := by
 refine ⟨g.tre, g.mach, h.l.chg.trans g.chg (fun x hx hc => ?_), fun x hx => ?_⟩
 ·rcases hc with rfl | hc | hc | hc | hc
  ·exact .inl rfl
  ·rcases h.l.ft x hc with e | e
   ·exact .inr (.inl e)
   ·omega
  ·exact .inr (.inr (.inl hc))
  ·subst hc
   rcases h.h0 with e | e
   ·omega
   ·exact .inr (.inr (.inr e))
  ·rcases h.fd x hc with e | e
   ·omega
   ·exact .inr (.inr (.inr e))
 ·rcases g.ft x hx with e | e
  ·exact h.l.ft x e
  ·have := h.size; exact .inr (by show w.w.heap.size ≤ x; exact Nat.le_trans this e)
theorem Ist.back (h : Ist w lo mb cb vp fuel tv0 rd tv dv op m c k v W) (g : Ist (own2 cb dv W) lo mb cb vp fuel tv rd tv' dv' op' m' c' k' v' W') : Ist w lo mb cb vp fuel tv0 rd tv' dv' op' m' c' k' v' W' :=
 ⟨h.lback g.l, h.b, g.dfs, fun x hx => by
  rcases g.fd x hx with e | e | e
  ·have := h.size; exact .inl (by show w.w.heap.size ≤ x; exact Nat.le_trans this e)
  ·subst e; exact h.h0
  ·exact h.fd x e, g.blk, h.h0, h.nr, g.runB, g.runF⟩
end
def spentV : Value := .iface 181 (.agg #[])
def endV (k v : Int) : Value := .iface 162 (.agg #[.int .i64 k, .int .i64 v])
def SpentE (e : Ending) : Prop := ∃ older : List PanicEntry, e = .panicked ({ v := spentV, recovered := false } :: older) ∧ ∀ x ∈ older, x.goexit = false
end Go.Proofs.Ythejnpignlhgiaa.Imem

namespace Go.Proofs.Ythejnpignlhgiaa.Itell
open Lib (hid)
open Go.ChangeShapes Go.WideShapes Go.ChangeAt Go.RowKit
open PL Mem Srun Sst Imem
section
variable {w : Bs} {W W' : World} {lo mb cb : Nat} {vp : Value} {fuel : Int} {tv0 : Value} {rd : Option RD} {tv dv tv' dv' : Value} {op op' : Int} {m m' : M} {c c' : Fr} {k v k' v' : Int}
theorem Ist.asm (h : Ist w lo mb cb vp fuel tv0 rd tv dv op m c k v W) (h1 : m'.trace = m.trace) (h2 : m'.made = m.made) (h3 : m'.shared = m.shared) : Ist w lo mb cb vp fuel tv0 rd tv dv op m' c k v W :=
 ⟨⟨h1 ▸ h.l.tre, by
  have := h.l.mach
  unfold icells at *
  rw [h2, h3]; exact this, h.l.chg, h.l.ft⟩, h.b, h.dfs, h.fd, h.blk, h.h0, h.nr, h.runB, h.runF⟩
set_option maxRecDepth 100000 in
theorem tellI_any (h : Ist w lo mb cb vp fuel tv0 rd tv dv op m c k v W) (kk f x : Int) (hl : m.trace.length ≤ 100000) :
  Calls Try.prog 142 #[.pointer (some ⟨mb, 0, none⟩), .int .i64 kk, .int .i64 f, .int .i64 x] W fun e W' => ∃ tv', e = .returned (.tuple #[]) ∧ Ist w lo mb cb vp fuel tv0 rd tv' dv op (PL.tell m kk f x) c k v W' ∧ Chg (fun y => y = mb ∨ tv.ownBlock = some y) W W' := by
 obtain ⟨i0, hi, hz0, hz1, hz2⟩ := info_parts infoEv
 obtain ⟨At, ct, rfl⟩ := own_slice h.l.tre
 have H := hid h
 have z5 : W.cell? ⟨mb, 5, none⟩ = some (.slice At m.trace.length ct) := h.l.mach.cells 5
 have hlo := h.loW
 clear h
 go_enter Try.func142, Try.ntmps142
 go_wp2_with (at_builtin; refine wpList_append_lies _ rfl _ _ 54 rfl lo 94 i0 _ 3 24 Try.underlying54 hi hz0 hz1 hz2 rfl (by decide) _ _ _ rfl (World.ownsRow.alloc H.out.l.tre _) ⟨W.heap.size, 0, none⟩ 1 1 [.int .i64 kk, .int .i64 f, .int .i64 x] rfl rfl ?cn ?co (by decide) ?c63 ?cb ?cl (W.heap.size + 1) ?cH ?next)
 case cn => exact World.news_of_block (cs := #[.int .i64 kk, .int .i64 f, .int .i64 x]) (t := 94) (fr := (0, 0)) (heap_alloc_new _ _)
 case co => intro u hu; simp at hu; rcases hu with rfl | rfl | rfl <;> rfl
 case c63 => unfold maxLen; omega
 case cb => omega
 case cl => simp; omega
 case cH => simp
 case next =>
  intro g cap w' hown' hgrow hat hlt
  have c1 : Chg (fun y => (Value.slice At m.trace.length ct).ownBlock = some y) W w' := (Chg.alloc _ W _).trans (Chg.of_grown hgrow) (fun x _ hx => hx.symm)
  have b := H.out.l.mach.chg c1 H.out.ntm
  have kc : w'.cell? ⟨mb, 5, none⟩ = some (.slice At m.trace.length ct) := b.cells 5
  have kf : w'.frozen? ⟨mb, 5, none⟩ = false := b.frozen 5
  have O := hid hown'
  have C1 := hid c1
  have B := hid b
  have A' := hid hat
  clear hown' hgrow hat c1 b z5
  go_wp2_with fail
  go_end0
  refine ⟨.slice (some ⟨g, 0, none⟩) (m.trace.length + 1) cap, rfl, ?_, (C1.out.mono (fun _ _ hx => .inr hx)).put _ _ (.inr (.inl rfl))⟩
  have o := O.out
  have e3 : cells3 m.trace ++ [.int .i64 kk, .int .i64 f, .int .i64 x] = cells3 (PL.tell m kk f x).trace := by simp [PL.tell, cells3, c3]
  rw [e3] at o
  have o' : Tre w' lo (.slice (some ⟨g, 0, none⟩) (m.trace.length + 1) cap) (PL.tell m kk f x).trace := by
   unfold Tre; rw [show (PL.tell m kk f x).trace.length = m.trace.length + 1 by simp [PL.tell]]; exact o
  refine H.out.told (m' := PL.tell m kk f x) (own_far o' _ _ (blk_apart o' B.out (by decide))) ?_ ((C1.out.mono (fun _ _ hx => .inr hx)).put _ _ (.inr (.inl rfl))) (fun y hy => ?_)
  ·have := B.out.put 5 (.slice (some ⟨g, 0, none⟩) (m.trace.length + 1) cap)
   simpa [icells, PL.tell] using this
  ·obtain rfl : g = y := by simpa [Value.ownBlock] using hy
   rcases A'.out with h | h
   ·exact .inl h
   ·exact .inr (by omega)
end
section
variable {w : Bs} {W : World} {lo mb cb : Nat} {vp : Value} {fuel : Int} {tv0 : Value} {rd : Option RD} {tv dv : Value} {op : Int} {m : M} {c : Fr} {k v : Int}
theorem begin_deep (h : Ist w lo mb cb vp fuel tv0 rd tv dv 8 m c k v W) :
  Calls Try.prog 136 #[.pointer (some ⟨mb, 0, none⟩), .pointer (some ⟨cb, 0, none⟩)] W fun e W' => e = .panicked [{ v := spentV, recovered := false }] ∧ Ist w lo mb cb vp fuel tv0 rd tv dv 8 m c k v W' := by
 have H := hid h
 have z3 : W.cell? ⟨mb, 3, none⟩ = some (.int .i64 8) := h.l.mach.cells 3
 clear h
 go_enter Try.func136, Try.ntmps136
 go_wp2_with fail
 exact ⟨rfl, rfl, H.out⟩
set_option maxRecDepth 100000 in
theorem begin_any (h : Ist w lo mb cb vp fuel tv0 rd tv dv op m c k v W) (h0 : 0 ≤ op) (h8 : op < 8) (hl : m.trace.length ≤ 100000) :
  Calls Try.prog 136 #[.pointer (some ⟨mb, 0, none⟩), .pointer (some ⟨cb, 0, none⟩)] W fun e W' => ∃ tv', e = .returned (.tuple #[]) ∧ Ist w lo mb cb vp fuel tv0 rd tv' dv (op + 1) (begin_ m c) c k v W' := by
 have H := hid h
 have z3 : W.cell? ⟨mb, 3, none⟩ = some (.int .i64 op) := h.l.mach.cells 3
 have f0 := h.l.mach.frozen
 have Q := hid (h.putm (m' := m) (op' := op + 1) 3 (.int .i64 (op + 1)) rfl rfl)
 have y0 : (W.setCell ⟨mb, 3, none⟩ (.int .i64 (op + 1))).cell? ⟨cb, 0, none⟩ = some (.int .i64 c.f) := Q.out.blk.cells 0
 have y1 : (W.setCell ⟨mb, 3, none⟩ (.int .i64 (op + 1))).cell? ⟨cb, 1, none⟩ = some (.int .i64 c.r0) := Q.out.blk.cells 1
 have y5 : (W.setCell ⟨mb, 3, none⟩ (.int .i64 (op + 1))).cell? ⟨cb, 5, none⟩ = some (rptr rd) := Q.out.blk.cells 5
 have hne : (op == 8) = false := by simpa using (show op ≠ 8 by omega)
 have hb : begin_ m c = PL.tell { m with deep := if m.deep > c.depth then m.deep else c.depth } (if c.deferred then 3 else 1) c.f c.r0 := rfl
 have hrf := h.runF
 clear h
 cases rd with
 | none =>
  obtain ⟨hd, _⟩ := hrf
  have HD := hid hd
  clear hd
  unfold rptr at y5
  go_enter Try.func136, Try.ntmps136
  go_wp2_with fail
  go_region_with (go_at_call 142; refine (tellI_any Q.out.drew 1 c.f c.r0 hl).mono ?_; rintro e W' ⟨tv', rfl, h', _⟩)
  all_goals
   go_wp2_with fail
   go_end0
   exact ⟨tv', rfl, Ist.asm h' (by simp [begin_, PL.tell, HD.out]) rfl rfl⟩
 | some d =>
  obtain ⟨hd, _⟩ := hrf
  have HD := hid hd
  clear hd
  unfold rptr at y5
  go_enter Try.func136, Try.ntmps136
  go_wp2_with fail
  go_region_with (go_at_call 142; refine (tellI_any Q.out.drew 3 c.f c.r0 hl).mono ?_; rintro e W' ⟨tv', rfl, h', _⟩)
  all_goals
   go_wp2_with fail
   go_end0
   exact ⟨tv', rfl, Ist.asm h' (by simp [begin_, PL.tell, HD.out]) rfl rfl⟩
end
end Go.Proofs.Ythejnpignlhgiaa.Itell
