import Derived.Test.YthejnpignlhgiaaM1
import Derived.Deep.Upon
import Derived.Deep.Onto
import Derived.StillTailTactics
import Derived.Test.YthejnpignlhgiaaRows
import Derived.OrdersHeld
import Derived.Deep.RegionHeld
set_option linter.all false
namespace Go.Proofs.Ythejnpignlhgiaa.Sst
open Go.ChangeShapes Go.WideShapes Go.ChangeAt Go.RowKit
open PL Mem Srun
def mcells (vp : Value) (fuel : Int) (m : M) (tv sv : Value) : Array Value :=
 #[vp, .int .i64 fuel, .bool m.spent, .int .i64 m.shared, .int .i64 m.made, .int .i64 m.deep, tv, sv]
def fcells (c : Fr) (dv : Value) : Array Value :=
 #[.int .i64 c.f, .int .i64 c.depth, .int .i64 c.r0, .int .i64 c.r1, .int .i64 c.r2, .int .i64 c.r3, dv, .int .i64 c.kind, .int .i64 c.value, .bool c.leaving, .bool c.deferred, .bool c.panicking, .int .i64 c.panic, .bool c.recovered, .int .i64 c.outer]
def mz : Array Value := #[.slice none 0 0, .int .i64 0, .bool false, .int .i64 0, .int .i64 0, .int .i64 0, .slice none 0 0, .slice none 0 0]
def fz : Array Value := #[.int .i64 0, .int .i64 0, .int .i64 0, .int .i64 0, .int .i64 0, .int .i64 0, .slice none 0 0, .int .i64 0, .int .i64 0, .bool false, .bool false, .bool false, .int .i64 0, .bool false, .int .i64 0]
theorem fcells_reg (c : Fr) (dv : Value) (a : Int) (h0 : 0 ≤ a) (h3 : a < 4) : (fcells c dv)[2 + a.toNat]? = some (.int .i64 (reg c a)) := by
 have h4 : a = 0 ∨ a = 1 ∨ a = 2 ∨ a = 3 := by omega
 rcases h4 with rfl | rfl | rfl | rfl <;> rfl
theorem fcells_set (c : Fr) (dv : Value) (a v : Int) (h0 : 0 ≤ a) (h3 : a < 4) : (fcells c dv).setIfInBounds (2 + a.toNat) (.int .i64 v) = fcells (setReg c a v) dv := by
 have h4 : a = 0 ∨ a = 1 ∨ a = 2 ∨ a = 3 := by omega
 rcases h4 with rfl | rfl | rfl | rfl <;> simp [fcells, setReg]
theorem gen_world {X G : World → Prop} {W : World} (hx : X W) (h : ∀ W, X W → G W) : G W := h W hx
theorem blk_apart {w : World} {lo sz n e g t : Nat} {v : Value} {l : List Value} {cs : Array Value} (h : w.ownsRow lo e sz v n l) (hb : Blk w g t cs) (hne : e ≠ t) : v.ownBlock ≠ some g := by
 intro hk
 rcases h.2 with ⟨rfl, _⟩ | ⟨g', cap, cur, rfl, _, hg, _⟩
 ·simp [Value.ownBlock] at hk
 ·simp [Value.ownBlock] at hk
  subst hk
  unfold Blk at hb
  rw [hg] at hb
  injection hb with hb
  injection hb with _ ht
  exact hne ht
theorem blk_drew {w : World} {g t : Nat} {cs : Array Value} (h : Blk w g t cs) : Blk w.drew g t cs := h
structure Lef (w : World) (lo : Nat) (tv0 sv0 tv sv dv : Value) (m : M) (c : Fr) (W : World) : Prop where
 tre : Tre W lo tv m.trace
 prs : Prs W lo sv m.seen
 dfs : Prs W lo dv c.defers
 chg : Chg (fun x => tv0.ownBlock = some x ∨ sv0.ownBlock = some x) w W
 ft : ∀ x, tv.ownBlock = some x → tv0.ownBlock = some x ∨ w.heap.size ≤ x
 fs : ∀ x, sv.ownBlock = some x → sv0.ownBlock = some x ∨ w.heap.size ≤ x
 fd : ∀ x, dv.ownBlock = some x → sv.ownBlock ≠ some x
section
variable {w W W' : World} {lo : Nat} {tv0 sv0 tv sv dv tv' sv' dv' : Value} {m m' : M} {c c' : Fr}
theorem Lef.refl (ht : Tre w lo tv m.trace) (hs : Prs w lo sv m.seen) (hd : Prs w lo dv c.defers) (hf : ∀ x, dv.ownBlock = some x → sv.ownBlock ≠ some x) : Lef w lo tv sv tv sv dv m c w :=
 ⟨ht, hs, hd, Chg.refl _ _, fun _ h => .inl h, fun _ h => .inl h, hf⟩
theorem Lef.alloc (h : Lef w lo tv0 sv0 tv sv dv m c W) (o : Obj) : Lef w lo tv0 sv0 tv sv dv m c (W.alloc o) :=
 ⟨World.ownsRow.alloc h.tre o, World.ownsRow.alloc h.prs o, World.ownsRow.alloc h.dfs o, h.chg.new o, h.ft, h.fs, h.fd⟩
theorem Lef.drew (h : Lef w lo tv0 sv0 tv sv dv m c W) : Lef w lo tv0 sv0 tv sv dv m c W.drew :=
 ⟨h.tre, h.prs, h.dfs, ⟨h.chg.os, h.chg.tape, h.chg.output, h.chg.size, h.chg.block⟩, h.ft, h.fs, h.fd⟩
theorem Lef.put (h : Lef w lo tv0 sv0 tv sv dv m c W) {g t : Nat} {cs : Array Value} (hb : Blk W g t cs) (hg : w.heap.size ≤ g) (h1 : t ≠ 94) (h2 : t ≠ 177) (i : Nat) (u : Value) : Lef w lo tv0 sv0 tv sv dv m c (W.setCell ⟨g, i, none⟩ u) :=
 ⟨own_far h.tre _ _ (blk_apart h.tre hb (Ne.symm h1)), own_far h.prs _ _ (blk_apart h.prs hb (Ne.symm h2)), own_far h.dfs _ _ (blk_apart h.dfs hb (Ne.symm h2)), h.chg.put _ _ (.inl hg), h.ft, h.fs, h.fd⟩
theorem Lef.as (h : Lef w lo tv0 sv0 tv sv dv m c W) (h1 : m'.trace = m.trace) (h2 : m'.seen = m.seen) (h3 : c'.defers = c.defers) : Lef w lo tv0 sv0 tv sv dv m' c' W :=
 ⟨by rw [h1]; exact h.tre, by rw [h2]; exact h.prs, by rw [h3]; exact h.dfs, h.chg, h.ft, h.fs, h.fd⟩
theorem Lef.call (h : Lef w lo tv0 sv0 tv sv dv m c W) {div : Value} {ci : Fr} (k : Lef W lo tv sv tv' sv' div m' ci W') : Lef w lo tv0 sv0 tv' sv' dv m' c W' := by
 have hne : ∀ x, dv.ownBlock = some x → ¬ (tv.ownBlock = some x ∨ sv.ownBlock = some x) := fun x hx hc => by
  rcases hc with hc | hc
  ·exact apart h.tre h.dfs (by decide) x hc hx
  ·exact h.fd x hx hc
 refine ⟨k.tre, k.prs, Prs.chg h.dfs k.chg hne, h.chg.trans k.chg (fun x hx hd => ?_), fun x hx => ?_, fun x hx => ?_, fun x hx hs => ?_⟩
 ·rcases hd with hd | hd
  ·rcases h.ft x hd with e | e
   ·exact .inl e
   ·omega
  ·rcases h.fs x hd with e | e
   ·exact .inr e
   ·omega
 ·rcases k.ft x hx with e | e
  ·exact h.ft x e
  ·exact .inr (Nat.le_trans h.chg.size e)
 ·rcases k.fs x hx with e | e
  ·exact h.fs x e
  ·exact .inr (Nat.le_trans h.chg.size e)
 ·rcases k.fs x hs with e | e
  ·exact h.fd x hx e
  ·have := (h.dfs.lt x hx).2; omega
theorem Lef.trans (h : Lef w lo tv0 sv0 tv sv dv m c W) (k : Lef W lo tv sv tv' sv' dv' m' c' W') : Lef w lo tv0 sv0 tv' sv' dv' m' c' W' := by
 have z := h.call k
 exact ⟨z.tre, z.prs, k.dfs, z.chg, z.ft, z.fs, k.fd⟩
theorem Lef.blk (k : Lef W lo tv sv tv' sv' dv' m' c' W') (ht : Tre W lo tv m.trace) (hs : Prs W lo sv m.seen) {g t : Nat} {cs : Array Value} (hb : Blk W g t cs) (h1 : t ≠ 94) (h2 : t ≠ 177) : Blk W' g t cs :=
 hb.chg k.chg (fun hc => by
  rcases hc with hc | hc
  ·exact blk_apart ht hb (Ne.symm h1) hc
  ·exact blk_apart hs hb (Ne.symm h2) hc)
end
structure Sta (w : World) (lo g0 g1 : Nat) (vp tv0 sv0 tv sv dv : Value) (fuel : Int) (m : M) (c : Fr) (W : World) : Prop where
 e : Lef w lo tv0 sv0 tv sv dv m c W
 b0 : Blk W g0 151 (mcells vp fuel m tv sv)
 b1 : Blk W g1 154 (fcells c dv)
 h0 : w.heap.size ≤ g0
 h1 : w.heap.size ≤ g1
section
variable {w W W' : World} {lo g0 g1 : Nat} {vp tv0 sv0 tv sv dv tv' sv' : Value} {fuel : Int} {m m' : M} {c c' : Fr}
theorem Sta.ne (h : Sta w lo g0 g1 vp tv0 sv0 tv sv dv fuel m c W) : g0 ≠ g1 := by
 rintro rfl
 have h0 := h.b0
 have h1 := h.b1
 unfold Blk at h0 h1
 rw [h0] at h1
 injection h1 with h1
 injection h1 with _ ht
 exact absurd ht (by decide)
theorem Sta.drew (h : Sta w lo g0 g1 vp tv0 sv0 tv sv dv fuel m c W) : Sta w lo g0 g1 vp tv0 sv0 tv sv dv fuel m c W.drew := ⟨h.e.drew, h.b0, h.b1, h.h0, h.h1⟩
theorem Sta.alloc (h : Sta w lo g0 g1 vp tv0 sv0 tv sv dv fuel m c W) (o : Obj) : Sta w lo g0 g1 vp tv0 sv0 tv sv dv fuel m c (W.alloc o) := ⟨h.e.alloc o, h.b0.alloc o, h.b1.alloc o, h.h0, h.h1⟩
theorem Sta.put1 (h : Sta w lo g0 g1 vp tv0 sv0 tv sv dv fuel m c W) (i : Nat) (u : Value) (hs : (fcells c dv).setIfInBounds i u = fcells c' dv) (hd : c'.defers = c.defers) : Sta w lo g0 g1 vp tv0 sv0 tv sv dv fuel m c' (W.setCell ⟨g1, i, none⟩ u) :=
 ⟨(h.e.put h.b1 h.h1 (by decide) (by decide) i u).as rfl rfl hd, h.b0.far _ _ h.ne, hs ▸ h.b1.put i u, h.h0, h.h1⟩
theorem Sta.put0 (h : Sta w lo g0 g1 vp tv0 sv0 tv sv dv fuel m c W) (i : Nat) (u : Value) (hs : (mcells vp fuel m tv sv).setIfInBounds i u = mcells vp fuel m' tv sv) (h1 : m'.trace = m.trace) (h2 : m'.seen = m.seen) : Sta w lo g0 g1 vp tv0 sv0 tv sv dv fuel m' c (W.setCell ⟨g0, i, none⟩ u) :=
 ⟨(h.e.put h.b0 h.h0 (by decide) (by decide) i u).as h1 h2 rfl, hs ▸ h.b0.put i u, h.b1.far _ _ h.ne.symm, h.h0, h.h1⟩
theorem Sta.whole0 (h : Sta w lo g0 g1 vp tv0 sv0 tv sv dv fuel m c W) {div : Value} {ci : Fr} (k : Lef W lo tv sv tv' sv' div m' ci W') :
  Sta w lo g0 g1 vp tv0 sv0 tv' sv' dv fuel m' c ((((((((W'.setCell ⟨g0, 0, none⟩ vp).setCell ⟨g0, 1, none⟩ (.int .i64 fuel)).setCell ⟨g0, 2, none⟩ (.bool m'.spent)).setCell ⟨g0, 3, none⟩ (.int .i64 m'.shared)).setCell ⟨g0, 4, none⟩ (.int .i64 m'.made)).setCell ⟨g0, 5, none⟩ (.int .i64 m'.deep)).setCell ⟨g0, 6, none⟩ tv').setCell ⟨g0, 7, none⟩ sv') := by
 have e := h.e.call k
 have k0 : Blk W' g0 151 (mcells vp fuel m tv sv) := k.blk h.e.tre h.e.prs h.b0 (by decide) (by decide)
 have k1 : Blk W' g1 154 (fcells c dv) := k.blk h.e.tre h.e.prs h.b1 (by decide) (by decide)
 have z0 := k0.put 0 vp
 have e0 := e.put k0 h.h0 (by decide) (by decide) 0 vp
 have z1 := z0.put 1 (.int .i64 fuel)
 have e1 := e0.put z0 h.h0 (by decide) (by decide) 1 (.int .i64 fuel)
 have z2 := z1.put 2 (.bool m'.spent)
 have e2 := e1.put z1 h.h0 (by decide) (by decide) 2 (.bool m'.spent)
 have z3 := z2.put 3 (.int .i64 m'.shared)
 have e3 := e2.put z2 h.h0 (by decide) (by decide) 3 (.int .i64 m'.shared)
 have z4 := z3.put 4 (.int .i64 m'.made)
 have e4 := e3.put z3 h.h0 (by decide) (by decide) 4 (.int .i64 m'.made)
 have z5 := z4.put 5 (.int .i64 m'.deep)
 have e5 := e4.put z4 h.h0 (by decide) (by decide) 5 (.int .i64 m'.deep)
 have z6 := z5.put 6 tv'
 have e6 := e5.put z5 h.h0 (by decide) (by decide) 6 tv'
 refine ⟨e6.put z6 h.h0 (by decide) (by decide) 7 sv', ?_, ?_, h.h0, h.h1⟩
 ·exact Blk.set8 (a0 := vp) (a1 := .int .i64 fuel) (a2 := .bool m.spent) (a3 := .int .i64 m.shared) (a4 := .int .i64 m.made) (a5 := .int .i64 m.deep) (a6 := tv) (a7 := sv) k0 _ _ _ _ _ _ _ _
 ·iterate 8 refine Blk.far ?_ _ _ h.ne.symm
  exact k1
theorem tell_end (h : Sta w lo g0 g1 vp tv0 sv0 tv sv dv fuel m c W) {k f v : Int} (ht : Tre W' lo tv' (tell m k f v).trace) (hc : Chg (fun x => tv.ownBlock = some x) W W') (hf : ∀ x, tv'.ownBlock = some x → tv.ownBlock = some x ∨ W.heap.size ≤ x) : Lef W lo tv sv tv' sv dv (tell m k f v) c W' :=
 ⟨ht, Prs.chg h.e.prs hc (fun x hx hx' => apart h.e.tre h.e.prs (by decide) x hx' hx), Prs.chg h.e.dfs hc (fun x hx hx' => apart h.e.tre h.e.dfs (by decide) x hx' hx), hc.mono (fun x _ hx => .inl hx), hf, fun _ hx => .inl hx, h.e.fd⟩
end
theorem Blk.set15 {w : World} {g : Nat} {t : TypeId} {a0 a1 a2 a3 a4 a5 a6 a7 a8 a9 a10 a11 a12 a13 a14 : Value} (h : Blk w g t #[a0, a1, a2, a3, a4, a5, a6, a7, a8, a9, a10, a11, a12, a13, a14]) (u0 u1 u2 u3 u4 u5 u6 u7 u8 u9 u10 u11 u12 u13 u14 : Value) :
  Blk (((((((((((((((w.setCell ⟨g, 0, none⟩ u0).setCell ⟨g, 1, none⟩ u1).setCell ⟨g, 2, none⟩ u2).setCell ⟨g, 3, none⟩ u3).setCell ⟨g, 4, none⟩ u4).setCell ⟨g, 5, none⟩ u5).setCell ⟨g, 6, none⟩ u6).setCell ⟨g, 7, none⟩ u7).setCell ⟨g, 8, none⟩ u8).setCell ⟨g, 9, none⟩ u9).setCell ⟨g, 10, none⟩ u10).setCell ⟨g, 11, none⟩ u11).setCell ⟨g, 12, none⟩ u12).setCell ⟨g, 13, none⟩ u13).setCell ⟨g, 14, none⟩ u14) g t #[u0, u1, u2, u3, u4, u5, u6, u7, u8, u9, u10, u11, u12, u13, u14] := by
 have := ((((((((((((((h.put 0 u0).put 1 u1).put 2 u2).put 3 u3).put 4 u4).put 5 u5).put 6 u6).put 7 u7).put 8 u8).put 9 u9).put 10 u10).put 11 u11).put 12 u12).put 13 u13).put 14 u14
 simpa only [List.setIfInBounds_toArray, List.set_cons_zero, List.set_cons_succ] using this
theorem Lef.far {w W : World} {lo : Nat} {tv0 sv0 tv sv dv : Value} {m : M} {c : Fr} (h : Lef w lo tv0 sv0 tv sv dv m c W) (p : Addr) (u : Value) (h1 : tv.ownBlock ≠ some p.block) (h2 : sv.ownBlock ≠ some p.block) (h3 : dv.ownBlock ≠ some p.block) (hg : w.heap.size ≤ p.block) : Lef w lo tv0 sv0 tv sv dv m c (W.setCell p u) :=
 ⟨own_far h.tre _ _ h1, own_far h.prs _ _ h2, own_far h.dfs _ _ h3, h.chg.put _ _ (.inl hg), h.ft, h.fs, h.fd⟩
theorem outs {w W : World} {lo g3 g4 : Nat} {vp tv0 sv0 tv sv dv : Value} {fuel : Int} {m : M} {c : Fr} (h : Lef w lo tv0 sv0 tv sv dv m c W) (b3 : Blk W g3 151 mz) (b4 : Blk W g4 154 fz) (h3 : w.heap.size ≤ g3) (h4 : w.heap.size ≤ g4) (hne : g3 ≠ g4) :
  Lef w lo tv0 sv0 tv sv dv m c (((((((((((((((((((((((W.setCell ⟨g3, 0, none⟩ vp).setCell ⟨g3, 1, none⟩ (.int .i64 fuel)).setCell ⟨g3, 2, none⟩ (.bool m.spent)).setCell ⟨g3, 3, none⟩ (.int .i64 m.shared)).setCell ⟨g3, 4, none⟩ (.int .i64 m.made)).setCell ⟨g3, 5, none⟩ (.int .i64 m.deep)).setCell ⟨g3, 6, none⟩ tv).setCell ⟨g3, 7, none⟩ sv).setCell ⟨g4, 0, none⟩ (.int .i64 c.f)).setCell ⟨g4, 1, none⟩ (.int .i64 c.depth)).setCell ⟨g4, 2, none⟩ (.int .i64 c.r0)).setCell ⟨g4, 3, none⟩ (.int .i64 c.r1)).setCell ⟨g4, 4, none⟩ (.int .i64 c.r2)).setCell ⟨g4, 5, none⟩ (.int .i64 c.r3)).setCell ⟨g4, 6, none⟩ dv).setCell ⟨g4, 7, none⟩ (.int .i64 c.kind)).setCell ⟨g4, 8, none⟩ (.int .i64 c.value)).setCell ⟨g4, 9, none⟩ (.bool c.leaving)).setCell ⟨g4, 10, none⟩ (.bool c.deferred)).setCell ⟨g4, 11, none⟩ (.bool c.panicking)).setCell ⟨g4, 12, none⟩ (.int .i64 c.panic)).setCell ⟨g4, 13, none⟩ (.bool c.recovered)).setCell ⟨g4, 14, none⟩ (.int .i64 c.outer)) ∧ Blk (((((((((((((((((((((((W.setCell ⟨g3, 0, none⟩ vp).setCell ⟨g3, 1, none⟩ (.int .i64 fuel)).setCell ⟨g3, 2, none⟩ (.bool m.spent)).setCell ⟨g3, 3, none⟩ (.int .i64 m.shared)).setCell ⟨g3, 4, none⟩ (.int .i64 m.made)).setCell ⟨g3, 5, none⟩ (.int .i64 m.deep)).setCell ⟨g3, 6, none⟩ tv).setCell ⟨g3, 7, none⟩ sv).setCell ⟨g4, 0, none⟩ (.int .i64 c.f)).setCell ⟨g4, 1, none⟩ (.int .i64 c.depth)).setCell ⟨g4, 2, none⟩ (.int .i64 c.r0)).setCell ⟨g4, 3, none⟩ (.int .i64 c.r1)).setCell ⟨g4, 4, none⟩ (.int .i64 c.r2)).setCell ⟨g4, 5, none⟩ (.int .i64 c.r3)).setCell ⟨g4, 6, none⟩ dv).setCell ⟨g4, 7, none⟩ (.int .i64 c.kind)).setCell ⟨g4, 8, none⟩ (.int .i64 c.value)).setCell ⟨g4, 9, none⟩ (.bool c.leaving)).setCell ⟨g4, 10, none⟩ (.bool c.deferred)).setCell ⟨g4, 11, none⟩ (.bool c.panicking)).setCell ⟨g4, 12, none⟩ (.int .i64 c.panic)).setCell ⟨g4, 13, none⟩ (.bool c.recovered)).setCell ⟨g4, 14, none⟩ (.int .i64 c.outer)) g3 151 (mcells vp fuel m tv sv) ∧ Blk (((((((((((((((((((((((W.setCell ⟨g3, 0, none⟩ vp).setCell ⟨g3, 1, none⟩ (.int .i64 fuel)).setCell ⟨g3, 2, none⟩ (.bool m.spent)).setCell ⟨g3, 3, none⟩ (.int .i64 m.shared)).setCell ⟨g3, 4, none⟩ (.int .i64 m.made)).setCell ⟨g3, 5, none⟩ (.int .i64 m.deep)).setCell ⟨g3, 6, none⟩ tv).setCell ⟨g3, 7, none⟩ sv).setCell ⟨g4, 0, none⟩ (.int .i64 c.f)).setCell ⟨g4, 1, none⟩ (.int .i64 c.depth)).setCell ⟨g4, 2, none⟩ (.int .i64 c.r0)).setCell ⟨g4, 3, none⟩ (.int .i64 c.r1)).setCell ⟨g4, 4, none⟩ (.int .i64 c.r2)).setCell ⟨g4, 5, none⟩ (.int .i64 c.r3)).setCell ⟨g4, 6, none⟩ dv).setCell ⟨g4, 7, none⟩ (.int .i64 c.kind)).setCell ⟨g4, 8, none⟩ (.int .i64 c.value)).setCell ⟨g4, 9, none⟩ (.bool c.leaving)).setCell ⟨g4, 10, none⟩ (.bool c.deferred)).setCell ⟨g4, 11, none⟩ (.bool c.panicking)).setCell ⟨g4, 12, none⟩ (.int .i64 c.panic)).setCell ⟨g4, 13, none⟩ (.bool c.recovered)).setCell ⟨g4, 14, none⟩ (.int .i64 c.outer)) g4 154 (fcells c dv) := by
 have n3t := blk_apart h.tre b3 (by decide)
 have n3s := blk_apart h.prs b3 (by decide)
 have n3d := blk_apart h.dfs b3 (by decide)
 have n4t := blk_apart h.tre b4 (by decide)
 have n4s := blk_apart h.prs b4 (by decide)
 have n4d := blk_apart h.dfs b4 (by decide)
 refine ⟨?_, ?_, ?_⟩
 ·iterate 15 refine Lef.far ?_ _ _ n4t n4s n4d h4
  iterate 8 refine Lef.far ?_ _ _ n3t n3s n3d h3
  exact h
 ·iterate 15 refine Blk.far ?_ _ _ hne
  exact Blk.set8 (a0 := .slice none 0 0) (a1 := .int .i64 0) (a2 := .bool false) (a3 := .int .i64 0) (a4 := .int .i64 0) (a5 := .int .i64 0) (a6 := .slice none 0 0) (a7 := .slice none 0 0) b3 _ _ _ _ _ _ _ _
 ·refine Blk.set15 (a0 := .int .i64 0) (a1 := .int .i64 0) (a2 := .int .i64 0) (a3 := .int .i64 0) (a4 := .int .i64 0) (a5 := .int .i64 0) (a6 := .slice none 0 0) (a7 := .int .i64 0) (a8 := .int .i64 0) (a9 := .bool false) (a10 := .bool false) (a11 := .bool false) (a12 := .int .i64 0) (a13 := .bool false) (a14 := .int .i64 0) ?_ _ _ _ _ _ _ _ _ _ _ _ _ _ _ _
  iterate 8 refine Blk.far ?_ _ _ hne.symm
  exact b4
theorem outs2 {w W : World} {lo g3 g4 : Nat} {vp tv0 sv0 tv sv dv : Value} {fuel : Int} {m m0 : M} {c c0 : Fr} {vp0 tv1 sv1 dv1 : Value} {fuel0 : Int} (h : Lef w lo tv0 sv0 tv sv dv m c W) (b3 : Blk W g3 151 (mcells vp0 fuel0 m0 tv1 sv1)) (b4 : Blk W g4 154 (fcells c0 dv1)) (h3 : w.heap.size ≤ g3) (h4 : w.heap.size ≤ g4) (hne : g3 ≠ g4) :
  Lef w lo tv0 sv0 tv sv dv m c (((((((((((((((((((((((W.setCell ⟨g3, 0, none⟩ vp).setCell ⟨g3, 1, none⟩ (.int .i64 fuel)).setCell ⟨g3, 2, none⟩ (.bool m.spent)).setCell ⟨g3, 3, none⟩ (.int .i64 m.shared)).setCell ⟨g3, 4, none⟩ (.int .i64 m.made)).setCell ⟨g3, 5, none⟩ (.int .i64 m.deep)).setCell ⟨g3, 6, none⟩ tv).setCell ⟨g3, 7, none⟩ sv).setCell ⟨g4, 0, none⟩ (.int .i64 c.f)).setCell ⟨g4, 1, none⟩ (.int .i64 c.depth)).setCell ⟨g4, 2, none⟩ (.int .i64 c.r0)).setCell ⟨g4, 3, none⟩ (.int .i64 c.r1)).setCell ⟨g4, 4, none⟩ (.int .i64 c.r2)).setCell ⟨g4, 5, none⟩ (.int .i64 c.r3)).setCell ⟨g4, 6, none⟩ dv).setCell ⟨g4, 7, none⟩ (.int .i64 c.kind)).setCell ⟨g4, 8, none⟩ (.int .i64 c.value)).setCell ⟨g4, 9, none⟩ (.bool c.leaving)).setCell ⟨g4, 10, none⟩ (.bool c.deferred)).setCell ⟨g4, 11, none⟩ (.bool c.panicking)).setCell ⟨g4, 12, none⟩ (.int .i64 c.panic)).setCell ⟨g4, 13, none⟩ (.bool c.recovered)).setCell ⟨g4, 14, none⟩ (.int .i64 c.outer)) ∧ Blk (((((((((((((((((((((((W.setCell ⟨g3, 0, none⟩ vp).setCell ⟨g3, 1, none⟩ (.int .i64 fuel)).setCell ⟨g3, 2, none⟩ (.bool m.spent)).setCell ⟨g3, 3, none⟩ (.int .i64 m.shared)).setCell ⟨g3, 4, none⟩ (.int .i64 m.made)).setCell ⟨g3, 5, none⟩ (.int .i64 m.deep)).setCell ⟨g3, 6, none⟩ tv).setCell ⟨g3, 7, none⟩ sv).setCell ⟨g4, 0, none⟩ (.int .i64 c.f)).setCell ⟨g4, 1, none⟩ (.int .i64 c.depth)).setCell ⟨g4, 2, none⟩ (.int .i64 c.r0)).setCell ⟨g4, 3, none⟩ (.int .i64 c.r1)).setCell ⟨g4, 4, none⟩ (.int .i64 c.r2)).setCell ⟨g4, 5, none⟩ (.int .i64 c.r3)).setCell ⟨g4, 6, none⟩ dv).setCell ⟨g4, 7, none⟩ (.int .i64 c.kind)).setCell ⟨g4, 8, none⟩ (.int .i64 c.value)).setCell ⟨g4, 9, none⟩ (.bool c.leaving)).setCell ⟨g4, 10, none⟩ (.bool c.deferred)).setCell ⟨g4, 11, none⟩ (.bool c.panicking)).setCell ⟨g4, 12, none⟩ (.int .i64 c.panic)).setCell ⟨g4, 13, none⟩ (.bool c.recovered)).setCell ⟨g4, 14, none⟩ (.int .i64 c.outer)) g3 151 (mcells vp fuel m tv sv) ∧ Blk (((((((((((((((((((((((W.setCell ⟨g3, 0, none⟩ vp).setCell ⟨g3, 1, none⟩ (.int .i64 fuel)).setCell ⟨g3, 2, none⟩ (.bool m.spent)).setCell ⟨g3, 3, none⟩ (.int .i64 m.shared)).setCell ⟨g3, 4, none⟩ (.int .i64 m.made)).setCell ⟨g3, 5, none⟩ (.int .i64 m.deep)).setCell ⟨g3, 6, none⟩ tv).setCell ⟨g3, 7, none⟩ sv).setCell ⟨g4, 0, none⟩ (.int .i64 c.f)).setCell ⟨g4, 1, none⟩ (.int .i64 c.depth)).setCell ⟨g4, 2, none⟩ (.int .i64 c.r0)).setCell ⟨g4, 3, none⟩ (.int .i64 c.r1)).setCell ⟨g4, 4, none⟩ (.int .i64 c.r2)).setCell ⟨g4, 5, none⟩ (.int .i64 c.r3)).setCell ⟨g4, 6, none⟩ dv).setCell ⟨g4, 7, none⟩ (.int .i64 c.kind)).setCell ⟨g4, 8, none⟩ (.int .i64 c.value)).setCell ⟨g4, 9, none⟩ (.bool c.leaving)).setCell ⟨g4, 10, none⟩ (.bool c.deferred)).setCell ⟨g4, 11, none⟩ (.bool c.panicking)).setCell ⟨g4, 12, none⟩ (.int .i64 c.panic)).setCell ⟨g4, 13, none⟩ (.bool c.recovered)).setCell ⟨g4, 14, none⟩ (.int .i64 c.outer)) g4 154 (fcells c dv) := by
 have n3t := blk_apart h.tre b3 (by decide)
 have n3s := blk_apart h.prs b3 (by decide)
 have n3d := blk_apart h.dfs b3 (by decide)
 have n4t := blk_apart h.tre b4 (by decide)
 have n4s := blk_apart h.prs b4 (by decide)
 have n4d := blk_apart h.dfs b4 (by decide)
 refine ⟨?_, ?_, ?_⟩
 ·iterate 15 refine Lef.far ?_ _ _ n4t n4s n4d h4
  iterate 8 refine Lef.far ?_ _ _ n3t n3s n3d h3
  exact h
 ·iterate 15 refine Blk.far ?_ _ _ hne
  exact Blk.set8 (a0 := vp0) (a1 := .int .i64 fuel0) (a2 := .bool m0.spent) (a3 := .int .i64 m0.shared) (a4 := .int .i64 m0.made) (a5 := .int .i64 m0.deep) (a6 := tv1) (a7 := sv1) b3 _ _ _ _ _ _ _ _
 ·refine Blk.set15 (a0 := .int .i64 c0.f) (a1 := .int .i64 c0.depth) (a2 := .int .i64 c0.r0) (a3 := .int .i64 c0.r1) (a4 := .int .i64 c0.r2) (a5 := .int .i64 c0.r3) (a6 := dv1) (a7 := .int .i64 c0.kind) (a8 := .int .i64 c0.value) (a9 := .bool c0.leaving) (a10 := .bool c0.deferred) (a11 := .bool c0.panicking) (a12 := .int .i64 c0.panic) (a13 := .bool c0.recovered) (a14 := .int .i64 c0.outer) ?_ _ _ _ _ _ _ _ _ _ _ _ _ _ _ _
  iterate 8 refine Blk.far ?_ _ _ hne.symm
  exact b4
end Go.Proofs.Ythejnpignlhgiaa.Sst

namespace Go.Proofs.Ythejnpignlhgiaa.App
open Go.ChangeShapes Go.WideShapes Go.ChangeAt Go.RowKit
open PL Mem
section
variable {P : Program} (w : World)
theorem row_run (base base' : Nat) (t ty e : TypeId) (i : TypeInfo) (z : Value) (size bytes : Nat) (ht : P.underlying t = some (.slice e)) (hi : P.info? e = some i) (hz : i.zero = some z)
  (hsize : i.size = size) (hby : i.bytes = bytes) (hzs : z.cells.size = size) (hsz : 0 < size)
  (v : Value) (n : Nat) (xs : List Value) (hv : w.ownsRow base e size v n xs) (x : Value) (m : Nat) (ys : List Value) (hx : w.ownsRow base' e size x m ys) (h1 : ∀ u ∈ ys, u.oneCell' = true)
  (h63 : n + m ≤ maxLen) (hbytes : (n + m) * bytes ≤ 140737488355328) (hbase : base ≤ w.heap.size) :
  ∃ v' w', (Builtin.append_ #[t, t] ty #[v, x]).run P w = .ok v' w' ∧ w'.ownsRow base e size v' (n + m) (xs ++ ys) ∧ w.grownBy w' v.ownBlock ∧ (v'.ownBlock = v.ownBlock ∨ v'.ownBlock = some w.heap.size) := by
 rcases hx.2 with ⟨rfl, rfl⟩ | ⟨g, cap, cur, rfl, _, _, _, _, _, _⟩
 ·have hy : ys = [] := List.eq_nil_of_length_eq_zero (by simpa using hx.1)
  subst hy
  refine ⟨v, w, ?_, by simpa using hv, World.grownBy.refl w _, .inl rfl⟩
  rcases hv.2 with ⟨rfl, rfl⟩ | ⟨g, cap, cur, rfl, _, _, hc, _⟩
  ·exact run_append_nothing w t t ty e i ht hi none 0 0 (Nat.le_refl _) _ (Src.ofNil w ht 0)
  ·exact run_append_nothing w t t ty e i ht hi _ n cap hc _ (Src.ofNil w ht 0)
 ·obtain ⟨v', w', hr, h2, h3, _, h5⟩ := run_append_own_at (P := P) w base t ty e i z size bytes ht hi hz hsize hby hzs hsz v n xs hv ⟨g, 0, none⟩ m cap ys hx.1 (hx.cells rfl) h1 h63 hbytes hbase
  exact ⟨v', w', hr, h2, h3, h5⟩
theorem row_wp {o : Oper} {a : Act} {K : Act → World → Prop} {Q : Exit → Act → World → Prop} (s x : Operand) (t : TypeId)
  (ho : o.op = .call { callee := .builtin .append, args := #[s, x], argTypes := #[t, t] })
  (base base' : Nat) (e : TypeId) (i : TypeInfo) (z : Value) (size bytes : Nat) (ht : P.underlying t = some (.slice e)) (hi : P.info? e = some i) (hz : i.zero = some z)
  (hsize : i.size = size) (hby : i.bytes = bytes) (hzs : z.cells.size = size) (hsz : 0 < size)
  (v : Value) (n : Nat) (xs : List Value) (hs : a.eval s = v) (hv : w.ownsRow base e size v n xs) (y : Value) (m : Nat) (ys : List Value) (hxy : a.eval x = y) (hy : w.ownsRow base' e size y m ys) (h1 : ∀ u ∈ ys, u.oneCell' = true)
  (h63 : n + m ≤ maxLen) (hbytes : (n + m) * bytes ≤ 140737488355328) (hbase : base ≤ w.heap.size)
  (h : ∀ v' w', w'.ownsRow base e size v' (n + m) (xs ++ ys) → w.grownBy w' v.ownBlock → (v'.ownBlock = v.ownBlock ∨ v'.ownBlock = some w.heap.size) → K (a.put o.dst v') w') : o.wp P a w K Q := by
 obtain ⟨v', w', hr, h2, h3, h4⟩ := row_run (P := P) w base base' t o.type e i z size bytes ht hi hz hsize hby hzs hsz v n xs hv y m ys hy h1 h63 hbytes hbase
 unfold Oper.wp execOp
 simp only [ho, resolve, invoke, builtin, Sem.run_bind, Sem.run_pure, Result.andThen_ok, List.map_toArray, List.map_cons, List.map_nil, hs, hxy, hr]
 exact h v' w' h2 h3 h4
theorem row_list {ops : Array Oper} {rest : List Oper} {o : Oper} {a : Act} {Q : Exit → Act → World → Prop} (hgd : o.guard = none) (s x : Operand) (t : TypeId)
  (ho : o.op = .call { callee := .builtin .append, args := #[s, x], argTypes := #[t, t] })
  (base base' : Nat) (e : TypeId) (i : TypeInfo) (z : Value) (size bytes : Nat) (ht : P.underlying t = some (.slice e)) (hi : P.info? e = some i) (hz : i.zero = some z)
  (hsize : i.size = size) (hby : i.bytes = bytes) (hzs : z.cells.size = size) (hsz : 0 < size)
  (v : Value) (n : Nat) (xs : List Value) (hs : a.eval s = v) (hv : w.ownsRow base e size v n xs) (y : Value) (m : Nat) (ys : List Value) (hxy : a.eval x = y) (hy : w.ownsRow base' e size y m ys) (h1 : ∀ u ∈ ys, u.oneCell' = true)
  (h63 : n + m ≤ maxLen) (hbytes : (n + m) * bytes ≤ 140737488355328) (hbase : base ≤ w.heap.size)
  (h : ∀ v' w', w'.ownsRow base e size v' (n + m) (xs ++ ys) → w.grownBy w' v.ownBlock → (v'.ownBlock = v.ownBlock ∨ v'.ownBlock = some w.heap.size) → wpList P ops Q rest (a.put o.dst v') w') : wpList P ops Q (o :: rest) a w :=
 wpList_plain hgd fun _ hK => row_wp w s x t ho base base' e i z size bytes ht hi hz hsize hby hzs hsz v n xs hs hv y m ys hxy hy h1 h63 hbytes hbase fun v' w' h2 h3 h4 => hK _ _ (h v' w' h2 h3 h4)
theorem row_step {ops : Array Oper} {o : Oper} {a : Act} {K : Act → World → Prop} {Q : Exit → Act → World → Prop} {E : Prop} (hgd : o.guard = none) (s x : Operand) (t : TypeId)
  (ho : o.op = .call { callee := .builtin .append, args := #[s, x], argTypes := #[t, t] })
  (base base' : Nat) (e : TypeId) (i : TypeInfo) (z : Value) (size bytes : Nat) (ht : P.underlying t = some (.slice e)) (hi : P.info? e = some i) (hz : i.zero = some z)
  (hsize : i.size = size) (hby : i.bytes = bytes) (hzs : z.cells.size = size) (hsz : 0 < size)
  (v : Value) (n : Nat) (xs : List Value) (hs : a.eval s = v) (hv : w.ownsRow base e size v n xs) (y : Value) (m : Nat) (ys : List Value) (hxy : a.eval x = y) (hy : w.ownsRow base' e size y m ys) (h1 : ∀ u ∈ ys, u.oneCell' = true)
  (h63 : n + m ≤ maxLen) (hbytes : (n + m) * bytes ≤ 140737488355328) (hbase : base ≤ w.heap.size)
  (h : ∀ v' w', w'.ownsRow base e size v' (n + m) (xs ++ ys) → w.grownBy w' v.ownBlock → (v'.ownBlock = v.ownBlock ∨ v'.ownBlock = some w.heap.size) → K (a.put o.dst v') w') :
  if Region.wanted o (yielded ops a.tmps) = true then Oper.wp P o a w K Q else E := by
 have hw : Region.wanted o (yielded ops a.tmps) = true := by simp [Region.wanted, hgd]
 rw [if_pos hw]
 exact row_wp w s x t ho base base' e i z size bytes ht hi hz hsize hby hzs hsz v n xs hs hv y m ys hxy hy h1 h63 hbytes hbase h
end
theorem empty_own {V : World} {g e size : Nat} {base : Nat} (h : V.heap[g]? = some (.cells #[] e)) (hb : base ≤ g) : V.ownsRow base e size (.slice (some ⟨g, 0, none⟩) 0 0) 0 [] :=
 ⟨by simp, .inr ⟨g, 0, #[], rfl, hb, h, Nat.le_refl _, by decide, by simp, by simp⟩⟩
theorem pair_own {V : World} {g e : Nat} {x y : Value} (h : V.heap[g]? = some (.cells #[x, y] e)) : V.ownsRow 0 e 2 (.slice (some ⟨g, 0, none⟩) 1 1) 1 [x, y] :=
 ⟨by simp, .inr ⟨g, 1, #[x, y], rfl, Nat.zero_le _, h, Nat.le_refl _, by decide, by simp, by simp⟩⟩
def Bl (W V : World) : Prop := Below W.heap.size W V
theorem Bl.refl (W : World) : Bl W W := Below.refl _ _
theorem Bl.alloc {W V : World} (h : Bl W V) (o : Obj) : Bl W (V.alloc o) := Below.alloc h h.size o
theorem Bl.drew {W V : World} (h : Bl W V) : Bl W V.drew := Below.drew h
theorem Bl.grown {W V V' : World} {row : Option Nat} (h : Bl W V) (hg : V.grownBy V' row) (hr : ∀ k, row = some k → W.heap.size ≤ k) : Bl W V' := Below.grown h hg h.size hr
theorem own_ne {V : World} {B e sz n B' e' sz' n' : Nat} {v v' : Value} {xs xs' : List Value} (h : V.ownsRow B e sz v n xs) (h' : V.ownsRow B' e' sz' v' n' xs') (hne : e ≠ e') {k : Nat} (hk : v.ownBlock = some k) : v'.ownBlock ≠ some k := by
 intro hk'
 rcases h.2 with ⟨rfl, _⟩ | ⟨g1, c1, cur1, rfl, _, hh1, _⟩
 ·cases hk
 ·rcases h'.2 with ⟨rfl, _⟩ | ⟨g2, c2, cur2, rfl, _, hh2, _⟩
  ·cases hk'
  ·obtain rfl : g1 = k := by simpa [Value.ownBlock] using hk
   obtain rfl : g2 = g1 := by simpa [Value.ownBlock] using hk'
   rw [hh1] at hh2
   injection hh2 with hh2
   injection hh2 with _ ht
   exact hne ht
theorem own_blk_ne {V : World} {B e sz n g : Nat} {t : TypeId} {v : Value} {xs : List Value} {cs : Array Value} (h : V.ownsRow B e sz v n xs) (hg : Blk V g t cs) (hne : e ≠ t) : v.ownBlock ≠ some g := by
 intro hk
 rcases h.2 with ⟨rfl, _⟩ | ⟨g1, c1, cur1, rfl, _, hh1, _⟩
 ·cases hk
 ·obtain rfl : g1 = g := by simpa [Value.ownBlock] using hk
  unfold Blk at hg
  rw [hh1] at hg
  injection hg with hg
  injection hg with _ ht
  exact hne ht
theorem one_own {V : World} {g e : Nat} {x : Value} (h : V.heap[g]? = some (.cells #[x] e)) : V.ownsRow 0 e 1 (.slice (some ⟨g, 0, none⟩) 1 1) 1 [x] :=
 ⟨by simp, .inr ⟨g, 1, #[x], rfl, Nat.zero_le _, h, Nat.le_refl _, by decide, by simp, by simp⟩⟩
theorem Chg.of_grown' {C : Nat → Prop} {a b : World} {row : Option Nat} (h : a.grownBy b row) (hC : ∀ k, row = some k → C k) : Chg C a b := (Chg.of_grown h).mono fun k _ e => hC k e.symm
end Go.Proofs.Ythejnpignlhgiaa.App

namespace Go.Proofs.Ythejnpignlhgiaa.Last
section
variable {P : Program} {ops : Array Oper} {Q : Exit → Act → World → Prop} {md : Region.Mode} {S : World → Prop} {l : Nat}
def Closed (md : Region.Mode) (ops : Array Oper) (listed : Array Bool) : Prop :=
 ∀ k o, ops[k]? = some o → listed.getD k false = true → ∀ e ∈ o.after, Region.binds md e = true → listed.getD e.on false = true
def closedB (md : Region.Mode) (ops : Array Oper) (listed : Array Bool) : Bool :=
 (List.range ops.size).all fun k => !listed.getD k false || ((ops[k]?).map (·.after.all fun e => !Region.binds md e || listed.getD e.on false)).getD true
theorem closedB_spec {listed : Array Bool} (h : closedB md ops listed = true) : Closed md ops listed := by
 intro k o ho hk e he hb
 have h1 := List.all_eq_true.1 h k (List.mem_range.2 (Array.getElem?_eq_some_iff.1 ho).1)
 simp only [hk, ho, Bool.not_true, Bool.false_or, Option.map_some, Option.getD_some] at h1
 have h2 := Array.all_eq_true_iff_forall_mem.1 h1 e he
 simpa [hb] using h2
def waits (md : Region.Mode) (ops : Array Oper) (i : Nat) : Nat → Nat → Bool
 | 0, l => l == i
 | n + 1, l => l == i || ((ops[l]?).map (fun o => o.after.any fun e => Region.binds md e && waits md ops i n e.on)).getD false
theorem waits_listed {listed : Array Bool} {i : Nat} (hc : Closed md ops listed) : ∀ (n l : Nat), waits md ops i n l = true → listed.getD l false = true → listed.getD i false = true
 | 0, l, h, hl => by
  have : l = i := by simpa [waits] using h
  exact this ▸ hl
 | n + 1, l, h, hl => by
  simp only [waits, Bool.or_eq_true, beq_iff_eq] at h
  rcases h with rfl | h
  ·exact hl
  ·cases ho : ops[l]? with
   | none => rw [ho] at h; cases h
   | some o =>
    rw [ho] at h
    simp only [Option.map_some, Option.getD_some] at h
    obtain ⟨e, he, h⟩ := Array.any_eq_true'.1 h
    simp only [Bool.and_eq_true] at h
    exact waits_listed hc n e.on h.2 (hc l o ho hl e he h.1)
theorem waits_ready {listed : Array Bool} {i n : Nat} (hc : Closed md ops listed) (hne : i ≠ l) (h : waits md ops i n l = true) (hr : l ∈ Region.ready md ops listed) : listed.getD i false = true := by
 obtain ⟨_, o, ho, hall⟩ := mem_ready.1 hr
 cases n with
 | zero => exact absurd (by simpa [waits] using h : l = i).symm hne
 | succ n =>
  simp only [waits, Bool.or_eq_true, beq_iff_eq] at h
  rcases h with h | h
  ·exact absurd h.symm hne
  ·rw [ho] at h
   simp only [Option.map_some, Option.getD_some] at h
   obtain ⟨e, he, h⟩ := Array.any_eq_true'.1 h
   simp only [Bool.and_eq_true] at h
   exact waits_listed hc n e.on h.2 (hall e he h.1)
theorem Closed.next {listed : Array Bool} {j : Nat} (hc : Closed md ops listed) (hj : j ∈ Region.ready md ops listed) : Closed md ops (listed.setIfInBounds j true) := by
 intro k o ho hk e he hb
 by_cases hjk : j = k
 ·subst hjk
  obtain ⟨_, o', ho', hall⟩ := mem_ready.1 hj
  obtain rfl : o = o' := by rw [ho] at ho'; simpa using ho'
  exact getD_set_true (hall e he hb)
 ·rw [getD_set_ne false hjk] at hk
  exact getD_set_true (hc k o ho hk e he hb)
def wpAnyL (P : Program) (md : Region.Mode) (ops : Array Oper) (Q : Exit → Act → World → Prop) (S : World → Prop) (l : Nat) : Nat → Array Bool → Act → World → Prop
 | 0, listed, a, w => Region.ready md ops listed = [] ∧ Q .normal a w
 | fuel + 1, listed, a, w =>
  (Region.ready md ops listed = [] → Q .normal a w) ∧
  ∀ i ∈ Region.ready md ops listed, wpOp P ops Q i (fun a' w' => (i ≠ l → S w') ∧ wpAnyL P md ops Q S l fuel (listed.setIfInBounds i true) a' w') a w
theorem wpAny_of_last : ∀ (fuel : Nat) (listed : Array Bool) (a : Act) (w : World), wpAnyL P md ops Q S l fuel listed a w → wpAny P md ops Q fuel listed a w
 | 0, _, _, _, h => h
 | fuel + 1, _, _, _, h => ⟨h.1, fun i hi => wpOp_mono (fun a' w' h' => wpAny_of_last fuel _ a' w' h'.2) (h.2 i hi)⟩
theorem wpAnyL_first {i n : Nat} {oi : Oper} {v : Value} (hi : ops[i]? = some oi) (hsel : ∀ (j : Nat) (o : Oper) cs b, ops[j]? = some o → o.op ≠ .select cs b)
  (hQ : ∀ c a w, Q (.panic c) (a.put oi.dst v) w → Q (.panic c) a w) (hne : i ≠ l) (hwt : waits md ops i n l = true) :
  ∀ (fuel : Nat) (listed : Array Bool) (a : Act) (w : World), Closed md ops listed →
   (∀ j oj, ops[j]? = some oj → j ≠ i → listed.getD j true = false → (∀ e ∈ oj.after, Region.binds md e = true → e.on ≠ i) → oi.apart ops oj = true) →
   i ∈ Region.ready md ops listed → YieldsIf P ops S oi v a → S w →
   wpAnyL P md ops Q S l fuel (listed.setIfInBounds i true) (a.put oi.dst v) w → wpAnyL P md ops Q S l (fuel + 1) listed a w := by
 intro fuel
 have unl : ∀ {listed : Array Bool}, i ∈ Region.ready md ops listed → listed.getD i false = false := by
  intro listed hr
  have h0 := (mem_ready.1 hr).1
  rcases Nat.lt_or_ge i listed.size with h' | h'
  ·simp [h'] at h0 ⊢; exact h0
  ·simp [Array.getElem?_eq_none h'] at h0
 induction fuel with
 | zero =>
  intro listed a w hcl _ hr hy hS H
  refine ⟨fun h => (by rw [h] at hr; cases hr), fun j hj => ?_⟩
  by_cases hji : j = i
  ·subst hji; exact hy.wpOp hi hS ⟨fun _ => hS, H⟩
  ·have := ready_mono hj hji
   rw [H.1] at this
   cases this
 | succ fuel ih =>
  intro listed a w hcl hfree hr hy hS H
  refine ⟨fun h => (by rw [h] at hr; cases hr), fun j hj => ?_⟩
  by_cases hji : j = i
  ·subst hji; exact hy.wpOp hi hS ⟨fun _ => hS, H⟩
  ·have hjl : j ≠ l := fun h => by
    have h1 := waits_ready hcl hne hwt (h ▸ hj)
    rw [unl hr] at h1
    cases h1
   have h1 := H.2 j (ready_mono hj hji)
   obtain ⟨hjun, oj, hoj, hall⟩ := mem_ready.1 hj
   have hnot : ∀ e ∈ oj.after, Region.binds md e = true → e.on ≠ i := fun e he hb heq => by
    have h1 := hall e he hb
    rw [heq, unl hr] at h1
    cases h1
   have h2 := wpOp_putIf hoj (hfree j oj hoj hji hjun hnot) (fun cs b => hsel i oi cs b hi) (fun cs b => hsel j oj cs b hoj) hQ hy h1
   refine wpOp_mono (fun a' w' h3 => ⟨fun _ => h3.2.1 hjl, ih (listed.setIfInBounds j true) a' w' (hcl.next hj) ?_ (ready_mono hr (Ne.symm hji)) h3.1 (h3.2.1 hjl) ?_⟩) h2
   ·intro k ok hk hki hun hno
    refine hfree k ok hk hki ?_ hno
    by_cases hjk : j = k
    ·subst hjk; exact hjun
    ·rw [getD_set_ne true hjk] at hun; exact hun
   ·rw [Array.setIfInBounds_comm _ _ hji]
    exact h3.2.2
theorem last_take {i : Nat} {oi : Oper} {d : Option Tmp} {v : Value} {fuel : Nat} {listed : Array Bool} {a : Act} {w : World} (hi : ops[i]? = some oi) (hd : oi.dst = d)
  (hs : Region.noSelect ops = true) (hf : Region.free md ops listed i = true) (hr : (Region.ready md ops listed).contains i = true)
  (hQ : ∀ c a w, Q (.panic c) (a.put d v) w → Q (.panic c) a w) (hne : (i == l) = false) (hwt : waits md ops i ops.size l = true) (hcl : closedB md ops listed = true)
  (hw : Region.wanted oi (yielded ops a.tmps) = true) (hy : ∀ w, S w → (execOp a.eval oi).run P w = .ok (.value v) w) (hS : S w)
  (h : wpAnyL P md ops Q S l fuel (listed.setIfInBounds i true) (a.put d v) w) : wpAnyL P md ops Q S l (fuel + 1) listed a w := by
 subst hd
 exact wpAnyL_first hi (Region.noSelect_spec hs) hQ (by simpa using hne) hwt fuel listed a w (closedB_spec hcl) (Region.free_spec hi hf) (by simpa using hr) (Or.inl ⟨hw, hy⟩) hS h
theorem last_one {i : Nat} {o : Oper} {fuel : Nat} {listed : Array Bool} {a : Act} {w : World} (hr : Region.ready md ops listed = [i]) (ho : ops[i]? = some o)
  (hw : Region.wanted o (yielded ops a.tmps) = true)
  (h : ∀ K : Act → World → Prop, Shut (∀ a' w', (i ≠ l → S w') → wpAnyL P md ops Q S l fuel (listed.setIfInBounds i true) a' w' → K a' w') → Oper.wp P o a w K Q) : wpAnyL P md ops Q S l (fuel + 1) listed a w := by
 refine ⟨fun h0 => absurd (hr ▸ h0) (by simp), fun j hj => ?_⟩
 rw [hr] at hj
 obtain rfl : j = i := by simpa using hj
 unfold wpOp
 simp only [ho, hw, if_true]
 exact .inl (h _ (fun a' w' h1 h2 => ⟨h1, h2⟩))
theorem last_two {i j : Nat} {oi oj : Oper} {fuel : Nat} {listed : Array Bool} {a : Act} {w : World} (hr : Region.ready md ops listed = [i, j]) (hoi : ops[i]? = some oi) (hoj : ops[j]? = some oj)
  (hwi : Region.wanted oi (yielded ops a.tmps) = true) (hwj : Region.wanted oj (yielded ops a.tmps) = true)
  (hi : ∀ K : Act → World → Prop, Shut (∀ a' w', (i ≠ l → S w') → wpAnyL P md ops Q S l fuel (listed.setIfInBounds i true) a' w' → K a' w') → Oper.wp P oi a w K Q)
  (hj : ∀ K : Act → World → Prop, Shut (∀ a' w', (j ≠ l → S w') → wpAnyL P md ops Q S l fuel (listed.setIfInBounds j true) a' w' → K a' w') → Oper.wp P oj a w K Q) : wpAnyL P md ops Q S l (fuel + 1) listed a w := by
 refine ⟨fun h0 => absurd (hr ▸ h0) (by simp), fun k hk => ?_⟩
 rw [hr] at hk
 simp only [List.mem_cons, List.not_mem_nil, or_false] at hk
 rcases hk with rfl | rfl
 ·unfold wpOp
  simp only [hoi, hwi, if_true]
  exact .inl (hi _ (fun a' w' h1 h2 => ⟨h1, h2⟩))
 ·unfold wpOp
  simp only [hoj, hwj, if_true]
  exact .inl (hj _ (fun a' w' h1 h2 => ⟨h1, h2⟩))
theorem last_done {listed : Array Bool} {a : Act} {w : World} (hr : Region.ready md ops listed = []) (h : Q .normal a w) : ∀ fuel, wpAnyL P md ops Q S l fuel listed a w
 | 0 => ⟨hr, h⟩
 | _ + 1 => ⟨fun _ => h, by rw [hr]; simp⟩
theorem region_last {id : Nat} {a : Act} {w : World} (l : Nat) (S : World → Prop) (hm : P.follows .mixedOrders = true)
  (h : wpAnyL P .any ops Q S l ops.size (Array.replicate ops.size false) a w.drew) : (Code.region id ops true).wp P Q a w :=
 wp_region_any hm (wpAny_of_last _ _ _ _ h)
end
end Go.Proofs.Ythejnpignlhgiaa.Last

namespace Go.Proofs.Ythejnpignlhgiaa.Last2
section
variable {P : Program} {ops : Array Oper} {Q : Exit → Act → World → Prop} {md : Region.Mode} {S : World → Prop} {ls : List Nat} {l : Nat}
def Closed (md : Region.Mode) (ops : Array Oper) (listed : Array Bool) : Prop :=
 ∀ k o, ops[k]? = some o → listed.getD k false = true → ∀ e ∈ o.after, Region.binds md e = true → listed.getD e.on false = true
def closedB (md : Region.Mode) (ops : Array Oper) (listed : Array Bool) : Bool :=
 (List.range ops.size).all fun k => !listed.getD k false || ((ops[k]?).map (·.after.all fun e => !Region.binds md e || listed.getD e.on false)).getD true
theorem closedB_spec {listed : Array Bool} (h : closedB md ops listed = true) : Closed md ops listed := by
 intro k o ho hk e he hb
 have h1 := List.all_eq_true.1 h k (List.mem_range.2 (Array.getElem?_eq_some_iff.1 ho).1)
 simp only [hk, ho, Bool.not_true, Bool.false_or, Option.map_some, Option.getD_some] at h1
 have h2 := Array.all_eq_true_iff_forall_mem.1 h1 e he
 simpa [hb] using h2
def waits (md : Region.Mode) (ops : Array Oper) (i : Nat) : Nat → Nat → Bool
 | 0, l => l == i
 | n + 1, l => l == i || ((ops[l]?).map (fun o => o.after.any fun e => Region.binds md e && waits md ops i n e.on)).getD false
theorem waits_listed {listed : Array Bool} {i : Nat} (hc : Closed md ops listed) : ∀ (n l : Nat), waits md ops i n l = true → listed.getD l false = true → listed.getD i false = true
 | 0, l, h, hl => by
  have : l = i := by simpa [waits] using h
  exact this ▸ hl
 | n + 1, l, h, hl => by
  simp only [waits, Bool.or_eq_true, beq_iff_eq] at h
  rcases h with rfl | h
  ·exact hl
  ·cases ho : ops[l]? with
   | none => rw [ho] at h; cases h
   | some o =>
    rw [ho] at h
    simp only [Option.map_some, Option.getD_some] at h
    obtain ⟨e, he, h⟩ := Array.any_eq_true'.1 h
    simp only [Bool.and_eq_true] at h
    exact waits_listed hc n e.on h.2 (hc l o ho hl e he h.1)
theorem waits_ready {listed : Array Bool} {i n : Nat} (hc : Closed md ops listed) (hne : i ≠ l) (h : waits md ops i n l = true) (hr : l ∈ Region.ready md ops listed) : listed.getD i false = true := by
 obtain ⟨_, o, ho, hall⟩ := mem_ready.1 hr
 cases n with
 | zero => exact absurd (by simpa [waits] using h : l = i).symm hne
 | succ n =>
  simp only [waits, Bool.or_eq_true, beq_iff_eq] at h
  rcases h with h | h
  ·exact absurd h.symm hne
  ·rw [ho] at h
   simp only [Option.map_some, Option.getD_some] at h
   obtain ⟨e, he, h⟩ := Array.any_eq_true'.1 h
   simp only [Bool.and_eq_true] at h
   exact waits_listed hc n e.on h.2 (hall e he h.1)
theorem Closed.next {listed : Array Bool} {j : Nat} (hc : Closed md ops listed) (hj : j ∈ Region.ready md ops listed) : Closed md ops (listed.setIfInBounds j true) := by
 intro k o ho hk e he hb
 by_cases hjk : j = k
 ·subst hjk
  obtain ⟨_, o', ho', hall⟩ := mem_ready.1 hj
  obtain rfl : o = o' := by rw [ho] at ho'; simpa using ho'
  exact getD_set_true (hall e he hb)
 ·rw [getD_set_ne false hjk] at hk
  exact getD_set_true (hc k o ho hk e he hb)
def wpAnyL (P : Program) (md : Region.Mode) (ops : Array Oper) (Q : Exit → Act → World → Prop) (S : World → Prop) (ls : List Nat) : Nat → Array Bool → Act → World → Prop
 | 0, listed, a, w => Region.ready md ops listed = [] ∧ Q .normal a w
 | fuel + 1, listed, a, w =>
  (Region.ready md ops listed = [] → Q .normal a w) ∧
  ∀ i ∈ Region.ready md ops listed, wpOp P ops Q i (fun a' w' => (i ∉ ls → S w') ∧ wpAnyL P md ops Q S ls fuel (listed.setIfInBounds i true) a' w') a w
theorem wpAny_of_last : ∀ (fuel : Nat) (listed : Array Bool) (a : Act) (w : World), wpAnyL P md ops Q S ls fuel listed a w → wpAny P md ops Q fuel listed a w
 | 0, _, _, _, h => h
 | fuel + 1, _, _, _, h => ⟨h.1, fun i hi => wpOp_mono (fun a' w' h' => wpAny_of_last fuel _ a' w' h'.2) (h.2 i hi)⟩
theorem wpAnyL_first {i n : Nat} {oi : Oper} {v : Value} (hi : ops[i]? = some oi) (hsel : ∀ (j : Nat) (o : Oper) cs b, ops[j]? = some o → o.op ≠ .select cs b)
  (hQ : ∀ c a w, Q (.panic c) (a.put oi.dst v) w → Q (.panic c) a w) (hne : i ∉ ls) (hwt : ∀ l ∈ ls, waits md ops i n l = true) :
  ∀ (fuel : Nat) (listed : Array Bool) (a : Act) (w : World), Closed md ops listed →
   (∀ j oj, ops[j]? = some oj → j ≠ i → listed.getD j true = false → (∀ e ∈ oj.after, Region.binds md e = true → e.on ≠ i) → oi.apart ops oj = true) →
   i ∈ Region.ready md ops listed → YieldsIf P ops S oi v a → S w →
   wpAnyL P md ops Q S ls fuel (listed.setIfInBounds i true) (a.put oi.dst v) w → wpAnyL P md ops Q S ls (fuel + 1) listed a w := by
 intro fuel
 have unl : ∀ {listed : Array Bool}, i ∈ Region.ready md ops listed → listed.getD i false = false := by
  intro listed hr
  have h0 := (mem_ready.1 hr).1
  rcases Nat.lt_or_ge i listed.size with h' | h'
  ·simp [h'] at h0 ⊢; exact h0
  ·simp [Array.getElem?_eq_none h'] at h0
 induction fuel with
 | zero =>
  intro listed a w hcl _ hr hy hS H
  refine ⟨fun h => (by rw [h] at hr; cases hr), fun j hj => ?_⟩
  by_cases hji : j = i
  ·subst hji; exact hy.wpOp hi hS ⟨fun _ => hS, H⟩
  ·have := ready_mono hj hji
   rw [H.1] at this
   cases this
 | succ fuel ih =>
  intro listed a w hcl hfree hr hy hS H
  refine ⟨fun h => (by rw [h] at hr; cases hr), fun j hj => ?_⟩
  by_cases hji : j = i
  ·subst hji; exact hy.wpOp hi hS ⟨fun _ => hS, H⟩
  ·have hjl : j ∉ ls := fun h => by
    have h1 := waits_ready hcl (Ne.symm hji) (hwt j h) hj
    rw [unl hr] at h1
    cases h1
   have h1 := H.2 j (ready_mono hj hji)
   obtain ⟨hjun, oj, hoj, hall⟩ := mem_ready.1 hj
   have hnot : ∀ e ∈ oj.after, Region.binds md e = true → e.on ≠ i := fun e he hb heq => by
    have h1 := hall e he hb
    rw [heq, unl hr] at h1
    cases h1
   have h2 := wpOp_putIf hoj (hfree j oj hoj hji hjun hnot) (fun cs b => hsel i oi cs b hi) (fun cs b => hsel j oj cs b hoj) hQ hy h1
   refine wpOp_mono (fun a' w' h3 => ⟨fun _ => h3.2.1 hjl, ih (listed.setIfInBounds j true) a' w' (hcl.next hj) ?_ (ready_mono hr (Ne.symm hji)) h3.1 (h3.2.1 hjl) ?_⟩) h2
   ·intro k ok hk hki hun hno
    refine hfree k ok hk hki ?_ hno
    by_cases hjk : j = k
    ·subst hjk; exact hjun
    ·rw [getD_set_ne true hjk] at hun; exact hun
   ·rw [Array.setIfInBounds_comm _ _ hji]
    exact h3.2.2
theorem wpAnyL_late {i : Nat} {oi : Oper} {v : Value} (hi : ops[i]? = some oi) (hsel : ∀ (j : Nat) (o : Oper) cs b, ops[j]? = some o → o.op ≠ .select cs b)
  (hQ : ∀ c a w, Q (.panic c) (a.put oi.dst v) w → Q (.panic c) a w) (hin : i ∈ ls) :
  ∀ (fuel : Nat) (listed : Array Bool) (a : Act) (w : World),
   (∀ j oj, ops[j]? = some oj → j ≠ i → listed.getD j true = false → (∀ e ∈ oj.after, Region.binds md e = true → e.on ≠ i) → oi.apart ops oj = true) →
   i ∈ Region.ready md ops listed → YieldsIf P ops (fun _ => True) oi v a →
   wpAnyL P md ops Q S ls fuel (listed.setIfInBounds i true) (a.put oi.dst v) w → wpAnyL P md ops Q S ls (fuel + 1) listed a w := by
 intro fuel
 have unl : ∀ {listed : Array Bool}, i ∈ Region.ready md ops listed → listed.getD i false = false := by
  intro listed hr
  have h0 := (mem_ready.1 hr).1
  rcases Nat.lt_or_ge i listed.size with h' | h'
  ·simp [h'] at h0 ⊢; exact h0
  ·simp [Array.getElem?_eq_none h'] at h0
 induction fuel with
 | zero =>
  intro listed a w _ hr hy H
  refine ⟨fun h => (by rw [h] at hr; cases hr), fun j hj => ?_⟩
  by_cases hji : j = i
  ·subst hji; exact hy.wpOp hi trivial ⟨fun h => absurd hin h, H⟩
  ·have := ready_mono hj hji
   rw [H.1] at this
   cases this
 | succ fuel ih =>
  intro listed a w hfree hr hy H
  refine ⟨fun h => (by rw [h] at hr; cases hr), fun j hj => ?_⟩
  by_cases hji : j = i
  ·subst hji; exact hy.wpOp hi trivial ⟨fun h => absurd hin h, H⟩
  ·have h1 := H.2 j (ready_mono hj hji)
   obtain ⟨hjun, oj, hoj, hall⟩ := mem_ready.1 hj
   have hnot : ∀ e ∈ oj.after, Region.binds md e = true → e.on ≠ i := fun e he hb heq => by
    have h1 := hall e he hb
    rw [heq, unl hr] at h1
    cases h1
   have h2 := wpOp_putIf hoj (hfree j oj hoj hji hjun hnot) (fun cs b => hsel i oi cs b hi) (fun cs b => hsel j oj cs b hoj) hQ hy h1
   refine wpOp_mono (fun a' w' h3 => ⟨h3.2.1, ih (listed.setIfInBounds j true) a' w' ?_ (ready_mono hr (Ne.symm hji)) h3.1 ?_⟩) h2
   ·intro k ok hk hki hun hno
    refine hfree k ok hk hki ?_ hno
    by_cases hjk : j = k
    ·subst hjk; exact hjun
    ·rw [getD_set_ne true hjk] at hun; exact hun
   ·rw [Array.setIfInBounds_comm _ _ hji]
    exact h3.2.2
theorem last_late {i : Nat} {oi : Oper} {d : Option Tmp} {v : Value} {fuel : Nat} {listed : Array Bool} {a : Act} {w : World} (hi : ops[i]? = some oi) (hd : oi.dst = d)
  (hs : Region.noSelect ops = true) (hf : Region.free md ops listed i = true) (hr : (Region.ready md ops listed).contains i = true)
  (hQ : ∀ c a w, Q (.panic c) (a.put d v) w → Q (.panic c) a w) (hin : ls.contains i = true)
  (hw : Region.wanted oi (yielded ops a.tmps) = true) (hy : ∀ w, (execOp a.eval oi).run P w = .ok (.value v) w)
  (h : wpAnyL P md ops Q S ls fuel (listed.setIfInBounds i true) (a.put d v) w) : wpAnyL P md ops Q S ls (fuel + 1) listed a w := by
 subst hd
 exact wpAnyL_late hi (Region.noSelect_spec hs) hQ (by simpa using hin) fuel listed a w (Region.free_spec hi hf) (by simpa using hr) (Or.inl ⟨hw, fun w _ => hy w⟩) h
theorem last_take {i : Nat} {oi : Oper} {d : Option Tmp} {v : Value} {fuel : Nat} {listed : Array Bool} {a : Act} {w : World} (hi : ops[i]? = some oi) (hd : oi.dst = d)
  (hs : Region.noSelect ops = true) (hf : Region.free md ops listed i = true) (hr : (Region.ready md ops listed).contains i = true)
  (hQ : ∀ c a w, Q (.panic c) (a.put d v) w → Q (.panic c) a w) (hne : ls.contains i = false) (hwt : (ls.all fun l => waits md ops i ops.size l) = true) (hcl : closedB md ops listed = true)
  (hw : Region.wanted oi (yielded ops a.tmps) = true) (hy : ∀ w, S w → (execOp a.eval oi).run P w = .ok (.value v) w) (hS : S w)
  (h : wpAnyL P md ops Q S ls fuel (listed.setIfInBounds i true) (a.put d v) w) : wpAnyL P md ops Q S ls (fuel + 1) listed a w := by
 subst hd
 exact wpAnyL_first hi (Region.noSelect_spec hs) hQ (by simpa using hne) (fun l hl => List.all_eq_true.1 hwt l hl) fuel listed a w (closedB_spec hcl) (Region.free_spec hi hf) (by simpa using hr) (Or.inl ⟨hw, hy⟩) hS h
theorem tk (i : Nat) {oi : Oper} (d : Nat) (v : Value) {fuel : Nat} {listed : Array Bool} {a : Act} {w : World} (hS : S w)
  (h : wpAnyL P md ops Q S ls fuel (listed.setIfInBounds i true) (a.put (some d) v) w) (hi : ops[i]? = some oi := by exact rfl) (hd : oi.dst = some d := by exact rfl)
  (hs : Region.noSelect ops = true := by kernel_rfl) (hf : Region.free md ops listed i = true := by kernel_rfl) (hr : (Region.ready md ops listed).contains i = true := by kernel_rfl)
  (hQ : ∀ c a w, Q (.panic c) (a.put (some d) v) w → Q (.panic c) a w := by exact fun _ _ _ h => h) (hne : ls.contains i = false := by exact rfl) (hwt : (ls.all fun l => waits md ops i ops.size l) = true := by kernel_rfl) (hcl : closedB md ops listed = true := by kernel_rfl)
  (hw : Region.wanted oi (yielded ops a.tmps) = true := by exact rfl)
  (hy : ∀ w, S w → (execOp a.eval oi).run P w = .ok (.value v) w := by (intro V hV; (try dsimp only at hV); go_simp; try with_reducible rfl)) : wpAnyL P md ops Q S ls (fuel + 1) listed a w := last_take hi hd hs hf hr hQ hne hwt hcl hw hy hS h
theorem s {α : Type} : (∀ (l : List α) (i : Nat) (a : α), l.toArray.setIfInBounds i a = (l.set i a).toArray) ∧ (∀ (x y : α) (l : List α), (x :: l).set 0 y = y :: l) ∧ ∀ (n : Nat) (x y : α) (l : List α), (x :: l).set (n + 1) y = x :: l.set n y :=
 ⟨fun l i a => List.setIfInBounds_toArray l i a, fun _ _ _ => List.set_cons_zero, fun _ _ _ _ => List.set_cons_succ⟩
theorem last_one {i : Nat} {o : Oper} {fuel : Nat} {listed : Array Bool} {a : Act} {w : World} (hr : Region.ready md ops listed = [i]) (ho : ops[i]? = some o)
  (hw : Region.wanted o (yielded ops a.tmps) = true)
  (h : ∀ K : Act → World → Prop, Shut (∀ a' w', (i ∉ ls → S w') → wpAnyL P md ops Q S ls fuel (listed.setIfInBounds i true) a' w' → K a' w') → Oper.wp P o a w K Q) : wpAnyL P md ops Q S ls (fuel + 1) listed a w := by
 refine ⟨fun h0 => absurd (hr ▸ h0) (by simp), fun j hj => ?_⟩
 rw [hr] at hj
 obtain rfl : j = i := by simpa using hj
 unfold wpOp
 simp only [ho, hw, if_true]
 exact .inl (h _ (fun a' w' h1 h2 => ⟨h1, h2⟩))
theorem last_two {i j : Nat} {oi oj : Oper} {fuel : Nat} {listed : Array Bool} {a : Act} {w : World} (hr : Region.ready md ops listed = [i, j]) (hoi : ops[i]? = some oi) (hoj : ops[j]? = some oj)
  (hwi : Region.wanted oi (yielded ops a.tmps) = true) (hwj : Region.wanted oj (yielded ops a.tmps) = true)
  (hi : ∀ K : Act → World → Prop, Shut (∀ a' w', (i ∉ ls → S w') → wpAnyL P md ops Q S ls fuel (listed.setIfInBounds i true) a' w' → K a' w') → Oper.wp P oi a w K Q)
  (hj : ∀ K : Act → World → Prop, Shut (∀ a' w', (j ∉ ls → S w') → wpAnyL P md ops Q S ls fuel (listed.setIfInBounds j true) a' w' → K a' w') → Oper.wp P oj a w K Q) : wpAnyL P md ops Q S ls (fuel + 1) listed a w := by
 refine ⟨fun h0 => absurd (hr ▸ h0) (by simp), fun k hk => ?_⟩
 rw [hr] at hk
 simp only [List.mem_cons, List.not_mem_nil, or_false] at hk
 rcases hk with rfl | rfl
 ·unfold wpOp
  simp only [hoi, hwi, if_true]
  exact .inl (hi _ (fun a' w' h1 h2 => ⟨h1, h2⟩))
 ·unfold wpOp
  simp only [hoj, hwj, if_true]
  exact .inl (hj _ (fun a' w' h1 h2 => ⟨h1, h2⟩))
theorem last_done {listed : Array Bool} {a : Act} {w : World} (hr : Region.ready md ops listed = []) (h : Q .normal a w) : ∀ fuel, wpAnyL P md ops Q S ls fuel listed a w
 | 0 => ⟨hr, h⟩
 | _ + 1 => ⟨fun _ => h, by rw [hr]; simp⟩
theorem region_last {id : Nat} {a : Act} {w : World} (ls : List Nat) (S : World → Prop) (hm : P.follows .mixedOrders = true)
  (h : wpAnyL P .any ops Q S ls ops.size (Array.replicate ops.size false) a w.drew) : (Code.region id ops true).wp P Q a w :=
 wp_region_any hm (wpAny_of_last _ _ _ _ h)
end
end Go.Proofs.Ythejnpignlhgiaa.Last2

namespace Go.Proofs.Ythejnpignlhgiaa.Res
open PL
def isFn (p : Pg) (f : Int) : Bool := okProg p && decide (0 ≤ f) && decide (f < p.length)
def body (p : Pg) (f : Int) : List Tr := p.getD f.toNat []
def deferS (s : Tr) : Tr := if s.1 = 4 then (5, s.2.1, s.2.2) else s
def deferP (p : Pg) (f : Int) : Pg := p.set f.toNat ((body p f).map deferS)
def deferR (p : Pg) (f : Int) : Pg × Bool := if isFn p f then (deferP p f, true) else ([], false)
def moveS (k by' : Int) (s : Tr) : Tr := if s.1 = 11 ∧ k ≤ s.2.1 then (s.1, min (s.2.1 + by') 8, s.2.2) else s
def putB (b : List Tr) (k : Nat) (s : Tr) : List Tr := (b.take k).map (moveS k 1) ++ s :: (b.drop k).map (moveS k 1)
def putR (p : Pg) (f k : Int) (s : Tr) : Pg × Bool :=
 if isFn p f && okStep p.length s && decide ((body p f).length ≠ 8) && decide (0 ≤ k) && decide (k ≤ (body p f).length) then (p.set f.toNat (putB (body p f) k.toNat s), true) else ([], false)
def dropB (b : List Tr) (k : Nat) : List Tr := (b.take k).map (moveS (k + 1) (-1)) ++ (b.drop (k + 1)).map (moveS (k + 1) (-1))
def dropR (p : Pg) (f k : Int) : Pg × Bool :=
 if isFn p f && decide (0 ≤ k) && decide (k < (body p f).length) then (p.set f.toNat (dropB (body p f) k.toNat), true) else ([], false)
def stackP : Pg := [[(1, 3, -1), (5, 1, 0), (2, 0, 3), (11, 1, 0)], [(3, 0, 0)]]
theorem okProg_parts {p : Pg} (h : okProg p = true) : 1 ≤ p.length ∧ p.length ≤ 6 ∧ (∀ (i : Nat) (xs : List Tr), p[i]? = some xs → xs.length ≤ 8 ∧ ∀ s ∈ xs, okStep p.length s = true) := by
 simp only [okProg, Bool.and_eq_true, decide_eq_true_eq, List.all_eq_true] at h
 refine ⟨h.1.1, h.1.2, fun i xs hx => ?_⟩
 have := h.2 xs (List.mem_of_getElem? hx)
 simp only [okBody, Bool.and_eq_true, decide_eq_true_eq, List.all_eq_true] at this
 exact this
theorem isFn_parts {p : Pg} {f : Int} (h : isFn p f = true) : okProg p = true ∧ 0 ≤ f ∧ f < p.length ∧ p[f.toNat]? = some (body p f) := by
 simp only [isFn, Bool.and_eq_true, decide_eq_true_eq] at h
 refine ⟨h.1.1, h.1.2, h.2, ?_⟩
 have hl : f.toNat < p.length := by omega
 simp [body, hl]
theorem body_le {p : Pg} {f : Int} (h : isFn p f = true) : (body p f).length ≤ 8 := by
 obtain ⟨a, _, _, b⟩ := isFn_parts h
 exact ((okProg_parts a).2.2 _ _ b).1
theorem sum_le (p : Pg) (k : Nat) (h : ∀ xs ∈ p, xs.length ≤ k) : (p.map List.length).sum ≤ p.length * k := by
 induction p with
 | nil => simp
 | cons xs p ih =>
  have h1 := h xs (by simp)
  have h2 := ih (fun y hy => h y (by simp [hy]))
  simp only [List.map_cons, List.sum_cons, List.length_cons, Nat.add_mul, Nat.one_mul]
  omega
def Fits (q : Pg) : Prop := q.length ≤ 6 ∧ ∀ xs ∈ q, xs.length ≤ 9
theorem Fits.nil : Fits [] := ⟨by simp, by simp⟩
theorem Fits.set {p : Pg} (h : okProg p = true) (i : Nat) (xs : List Tr) (hx : xs.length ≤ 9) : Fits (p.set i xs) := by
 obtain ⟨_, h2, h3⟩ := okProg_parts h
 refine ⟨by simpa using h2, fun ys hy => ?_⟩
 rcases List.mem_or_eq_of_mem_set hy with hy | rfl
 ·obtain ⟨j, hj⟩ := List.getElem?_of_mem hy
  have := (h3 j ys hj).1
  omega
 ·exact hx
theorem defer_fits (p : Pg) (f : Int) : Fits (deferR p f).1 := by
 unfold deferR
 split
 ·rename_i h
  exact Fits.set (isFn_parts h).1 _ _ (by have := body_le h; simp; omega)
 ·exact Fits.nil
theorem put_fits (p : Pg) (f k : Int) (s : Tr) : Fits (putR p f k s).1 := by
 unfold putR
 split
 ·rename_i h
  simp only [Bool.and_eq_true, decide_eq_true_eq] at h
  refine Fits.set (isFn_parts h.1.1.1.1).1 _ _ ?_
  have := body_le h.1.1.1.1
  simp [putB]; omega
 ·exact Fits.nil
theorem drop_fits (p : Pg) (f k : Int) : Fits (dropR p f k).1 := by
 unfold dropR
 split
 ·rename_i h
  simp only [Bool.and_eq_true, decide_eq_true_eq] at h
  refine Fits.set (isFn_parts h.1.1).1 _ _ ?_
  have := body_le h.1.1
  simp [dropB]; omega
 ·exact Fits.nil
theorem stack_fits : Fits stackP := ⟨by decide, by decide⟩
end Go.Proofs.Ythejnpignlhgiaa.Res

namespace Go.Proofs.Ythejnpignlhgiaa.Leav
open PL
def Lv (c : Fr) : Prop := (c.leaving = true → c.kind ≠ 1) ∧ 1 ≤ c.kind ∧ c.kind ≤ 3
def LvC (inner : PL.Call) : Prop := ∀ (m : M) (c : Fr), c.leaving = false → (inner m c).1.spent = false → Lv (inner m c).2
theorem setReg_leaving (c : Fr) (i v : Int) : (setReg c i v).leaving = c.leaving := by unfold setReg; split <;> (try split) <;> (try split) <;> rfl
theorem lv_of {c c' : Fr} (h : Lv c) (h1 : c'.leaving = c.leaving) (h2 : c'.kind = c.kind) : Lv c' := by unfold Lv at *; rw [h1, h2]; exact h
theorem simple_same (m : M) (c : Fr) (s : Tr) : (simple m c s).2.leaving = c.leaving ∧ (simple m c s).2.kind = c.kind ∧ (simple m c s).1.spent = m.spent := by
 unfold simple
 repeat' split
 all_goals (try exact ⟨rfl, rfl, rfl⟩)
 all_goals (try exact ⟨setReg_leaving _ _ _, setReg_kind _ _ _, rfl⟩)
 all_goals (exact ⟨(setReg_leaving _ _ _).trans (setReg_leaving _ _ _), (setReg_kind _ _ _).trans (setReg_kind _ _ _), rfl⟩)
theorem ended {c : Fr} {a : Int} (h : c.kind = 2 ∨ c.kind = 3) (ha : a = -1) : Lv c ∧ (a ≠ -1 → c.kind = 1 ∧ c.leaving = false) ∧ (c.kind = 1 → c.leaving = false) :=
 ⟨⟨fun _ => by omega, by omega, by omega⟩, fun h => absurd ha h, fun h => by omega⟩
theorem mk_lv {inner : PL.Call} (hi : LvC inner) {m : M} {c : Fr} (hk : c.kind = 1) (hl : c.leaving = false) (a : Int) (ha : 0 ≤ a) (s : Tr) (hs : s.1 = 11 → 0 ≤ s.2.1) (hsp : (mk inner m c a s).1.spent = false) :
  Lv (mk inner m c a s).2.1 ∧ ((mk inner m c a s).2.2 ≠ -1 → (mk inner m c a s).2.1.kind = 1 ∧ (mk inner m c a s).2.1.leaving = false) ∧ ((mk inner m c a s).2.1.kind = 1 → (mk inner m c a s).2.1.leaving = false) := by
 have hv : Lv c := ⟨fun h => (by rw [hl] at h; cases h), by omega, by omega⟩
 unfold mk at hsp ⊢
 split
 ·rename_i h4
  rw [if_pos h4] at hsp
  have h := hi _ (newFrame s.2.1 (c.depth + 1) (reg c s.2.2)) rfl hsp
  unfold mkCall innerEnd at hsp ⊢
  generalize (inner m (newFrame s.2.1 (c.depth + 1) (reg c s.2.2))).2 = i at *
  obtain ⟨h1, h2, h3⟩ := h
  dsimp only at *
  by_cases e1 : i.kind = 1
  ·rw [if_pos e1]
   exact ⟨lv_of hv rfl rfl, fun _ => ⟨hk, hl⟩, fun _ => hl⟩
  ·rw [if_neg e1]
   by_cases e2 : i.kind = 2
   ·rw [if_pos e2]
    exact ended (.inl rfl) rfl
   ·rw [if_neg e2, if_pos (by omega)]
    exact ended (.inr rfl) rfl
 ·split
  ·exact ⟨lv_of hv rfl rfl, fun _ => ⟨hk, hl⟩, fun _ => hl⟩
  ·split
   ·exact ended (.inl rfl) rfl
   ·split
    ·exact ⟨lv_of hv rfl rfl, fun h => absurd rfl h, fun _ => hl⟩
    ·split
     ·exact ended (.inr rfl) rfl
     ·split
      ·exact ⟨hv, fun _ => ⟨hk, hl⟩, fun _ => hl⟩
      ·obtain ⟨s1, s2, _⟩ := simple_same m c s
       exact ⟨lv_of hv s1 s2, fun _ => ⟨s2.trans hk, s1.trans hl⟩, fun _ => s1.trans hl⟩
theorem body_lv {inner : PL.Call} (hi : LvC inner) {b : List Tr} {fuel : Int} (hb : ∀ (j : Nat) (s : Tr), b[j]? = some s → s.1 = 11 → 0 ≤ s.2.1) :
  ∀ (k : Nat) (m : M) (c : Fr) (a : Int), c.kind = 1 → c.leaving = false → -1 ≤ a → (body inner b fuel k m c a).1.spent = false → Lv (body inner b fuel k m c a).2
 | 0, m, c, a, hk, hl, _, _ => ⟨fun h => (by rw [show (body inner b fuel 0 m c a).2 = c from rfl, hl] at h; cases h), by rw [show (body inner b fuel 0 m c a).2 = c from rfl]; omega, by rw [show (body inner b fuel 0 m c a).2 = c from rfl]; omega⟩
 | k + 1, m, c, a, hk, hl, ha, hsp => by
  have hv : Lv c := ⟨fun h => (by rw [hl] at h; cases h), by omega, by omega⟩
  unfold body at hsp ⊢
  split
  ·rename_i h0
   rw [if_pos h0] at hsp
   split
   ·exact hv
   ·rename_i s hs
    rw [hs] at hsp
    dsimp only at hsp
    split
    ·rename_i he
     rw [if_pos he] at hsp
     cases hsp
    ·rename_i he
     rw [if_neg he] at hsp
     have hm := mk_lv hi (m := count m c.f a) hk hl a h0 s (hb _ _ hs)
     have hm9 : -1 ≤ (mk inner (count m c.f a) c a s).2.2 := by
      have h11 := hb _ _ hs
      unfold mk mkCall innerEnd
      repeat' split
      all_goals (dsimp only; try omega)
     generalize mk inner (count m c.f a) c a s = r at *
     obtain ⟨m', c', a'⟩ := r
     dsimp only at hm hsp hm9 ⊢
     split
     ·rename_i h1
      rw [if_pos h1] at hsp
      rw [h1] at hsp
      cases hsp
     ·rename_i h1
      rw [if_neg h1] at hsp
      obtain ⟨q1, q2, q3⟩ := hm (by simpa using h1)
      by_cases hq : a' = -1
      ·subst hq
       cases k with
       | zero => exact q1
       | succ k =>
        unfold body
        rw [if_neg (by decide)]
        exact q1
      ·obtain ⟨q4, q5⟩ := q2 hq
       exact body_lv hi hb k m' c' a' q4 q5 hm9 hsp
  ·exact hv
theorem lastEnd_lv {c i : Fr} (h : Lv c) (hi : Lv i) : Lv (lastEnd c i) := by
 obtain ⟨c1, c2, c3⟩ := h
 obtain ⟨i1, i2, i3⟩ := hi
 unfold Lv lastEnd
 dsimp only
 by_cases e2 : i.kind = 2
 ·simp [e2]
 ·by_cases e3 : i.kind = 3
  ·simp [e3]
  ·have e1 : i.kind = 1 := by omega
   have il : i.leaving = false := by
    cases h : i.leaving with
    | false => rfl
    | true => exact absurd e1 (i1 h)
   simp only [e1, il, Bool.or_false, if_neg (show ¬ (1 : Int) = 2 by decide), if_neg (show ¬ (1 : Int) = 3 by decide)]
   cases i.recovered with
   | true =>
    cases hcl : c.leaving with
    | true => simp
    | false => simp
   | false => exact ⟨by simpa using c1, by simpa using c2, by simpa using c3⟩
theorem dfr_lv {inner : PL.Call} (hi : LvC inner) : ∀ (k : Nat) (m : M) (c : Fr), Lv c → (dfr inner k m c).1.spent = false → Lv (dfr inner k m c).2
 | 0, m, c, h, _ => h
 | k + 1, m, c, h, hsp => by
  unfold dfr at hsp ⊢
  split
  ·exact h
  ·rename_i d hd
   rw [hd] at hsp
   dsimp only at hsp
   have hm := hi m (lastFrame c d) rfl
   generalize inner m (lastFrame c d) = r at *
   obtain ⟨m', i⟩ := r
   dsimp only at hm hsp ⊢
   split
   ·rename_i h1
    rw [if_pos h1] at hsp
    rw [h1] at hsp
    cases hsp
   ·rename_i h1
    rw [if_neg h1] at hsp
    exact dfr_lv hi k m' _ (lastEnd_lv (c := dropL c) (lv_of h rfl rfl) (hm (by simpa using h1))) hsp
theorem call_lv {p : Pg} (hp : okProg p = true) {fuel : Int} : ∀ d : Nat, LvC (call p fuel d)
 | 0 => fun m c _ h => by cases h
 | d + 1 => fun m c hl hsp => by
  have hi := call_lv hp (fuel := fuel) d
  have hb : ∀ (j : Nat) (s : Tr), (p.getD c.f.toNat [])[j]? = some s → s.1 = 11 → 0 ≤ s.2.1 := by
   intro j s hs h11
   have hx : ∃ b, p[c.f.toNat]? = some b ∧ p.getD c.f.toNat [] = b := by
    cases hb : p[c.f.toNat]? with
    | none => rw [List.getD_eq_getElem?_getD, hb] at hs; simp at hs
    | some b => exact ⟨b, rfl, by rw [List.getD_eq_getElem?_getD, hb]; rfl⟩
   obtain ⟨b, hb, hg⟩ := hx
   rw [hg] at hs
   have := (okProg_body hp hb).2 j s hs
   unfold okStep at this
   simp only [h11] at this
   simp at this
   exact this.1.1
  change (afterB (call p fuel d) (body (call p fuel d) (p.getD c.f.toNat []) fuel (fuel.toNat + 1) (begin_ m c) { c with kind := 1 } 0)).1.spent = false at hsp
  change Lv (afterB (call p fuel d) (body (call p fuel d) (p.getD c.f.toNat []) fuel (fuel.toNat + 1) (begin_ m c) { c with kind := 1 } 0)).2
  have h1 := body_lv hi (fuel := fuel) hb (fuel.toNat + 1) (begin_ m c) { c with kind := 1 } 0 rfl hl (by decide)
  generalize body (call p fuel d) (p.getD c.f.toNat []) fuel (fuel.toNat + 1) (begin_ m c) { c with kind := 1 } 0 = r at *
  unfold afterB at hsp ⊢
  split
  ·rename_i h2
   rw [if_pos h2] at hsp
   rw [h2] at hsp
   cases hsp
  ·rename_i h2
   rw [if_neg h2] at hsp
   unfold closeC at hsp ⊢
   have h3 := dfr_lv hi r.2.defers.length r.1 r.2 (h1 (by simpa using h2))
   split
   ·rename_i h4
    rw [if_pos h4] at hsp
    rw [h4] at hsp
    cases hsp
   ·rename_i h4
    exact h3 (by simpa using h4)
end Go.Proofs.Ythejnpignlhgiaa.Leav
