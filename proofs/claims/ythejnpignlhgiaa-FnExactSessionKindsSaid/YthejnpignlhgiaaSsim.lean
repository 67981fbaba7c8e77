import Derived.Test.YthejnpignlhgiaaM3
import Derived.IntWalk
import Derived.StillTailTactics
import Derived.RegionTactic
import Derived.BigRegion
import Derived.Deep.DeepCutAuto
import Derived.Deep.CutBlock
set_option linter.all false
namespace Go.Proofs.Ythejnpignlhgiaa.Ssim
open Lib (hid)
open Go.ChangeShapes Go.WideShapes Go.ChangeAt Go.RowKit
open PL Mem Srun Sst
theorem heap5_2 (w : World) (o0 o1 o2 o3 o4 : Obj) : (((((w.alloc o0).alloc o1).alloc o2).alloc o3).alloc o4).heap[w.heap.size + 1 + 1]? = some o2 := (Below.heap_alloc _ o4 (w.heap.size + 2) (by simp <;> omega)).trans (heap4_2 w o0 o1 o2 o3)
theorem wrap_sum (x y : Int) (hx : N16 x) (hy : N16 y) (W : World) : Calls Try.prog 141 #[.int .i64 (IntKind.i64.wrap (x + y))] W fun e w' => e = .returned (.int .i64 (wrap16 (x + y))) ∧ W = w' := by
 have := hx.1; have := hx.2; have := hy.1; have := hy.2
 rw [IntWalk.i64_in _ (by omega)]
 exact wrap_any (x + y) (by omega) (by omega) W
structure Beg (w : World) (lo : Nat) (vp tv0 sv0 tv sv dv : Value) (fuel : Int) (m : M) (c : Fr) (W : World) : Prop where
 st : Sta w lo w.heap.size (w.heap.size + 1) vp tv0 sv0 tv sv dv fuel m c W
 b3 : Blk W (w.heap.size + 1 + 1 + 1) 151 mz
 b4 : Blk W (w.heap.size + 1 + 1 + 1 + 1) 154 fz
def BegS (w : World) (lo : Nat) (vp tv0 sv0 tv sv dv : Value) (fuel : Int) (m : M) (c : Fr) (s : Tr) (W : World) : Prop :=
 Beg w lo vp tv0 sv0 tv sv dv fuel m c W ∧ Blk W (w.heap.size + 1 + 1) 139 #[.int .i64 s.1, .int .i64 s.2.1, .int .i64 s.2.2]
def Rel (w : World) (lo : Nat) (vp tv0 sv0 dv : Value) (fuel : Int) (r : M × Fr) (wx : World) : Prop :=
 ∃ tv sv, (∃ A n c, tv = .slice A n c) ∧ (∃ A n c, sv = .slice A n c) ∧ Beg w lo vp tv0 sv0 tv sv dv fuel r.1 r.2 wx
section
variable {w W W' : World} {lo : Nat} {vp tv0 sv0 tv sv dv tv' sv' : Value} {fuel : Int} {m m' : M} {c c' : Fr}
theorem Beg.drew (h : Beg w lo vp tv0 sv0 tv sv dv fuel m c W) : Beg w lo vp tv0 sv0 tv sv dv fuel m c W.drew := ⟨h.st.drew, h.b3, h.b4⟩
theorem Beg.put1 (h : Beg w lo vp tv0 sv0 tv sv dv fuel m c W) (i : Nat) (u : Value) (hs : (fcells c dv).setIfInBounds i u = fcells c' dv) (hd : c'.defers = c.defers) : Beg w lo vp tv0 sv0 tv sv dv fuel m c' (W.setCell ⟨w.heap.size + 1, i, none⟩ u) :=
 ⟨h.st.put1 i u hs hd, h.b3.far _ _ (by show w.heap.size + 1 + 1 + 1 ≠ w.heap.size + 1; omega), h.b4.far _ _ (by show w.heap.size + 1 + 1 + 1 + 1 ≠ w.heap.size + 1; omega)⟩
theorem Beg.put0 (h : Beg w lo vp tv0 sv0 tv sv dv fuel m c W) (i : Nat) (u : Value) (hs : (mcells vp fuel m tv sv).setIfInBounds i u = mcells vp fuel m' tv sv) (h1 : m'.trace = m.trace) (h2 : m'.seen = m.seen) : Beg w lo vp tv0 sv0 tv sv dv fuel m' c (W.setCell ⟨w.heap.size, i, none⟩ u) :=
 ⟨h.st.put0 i u hs h1 h2, h.b3.far _ _ (by show w.heap.size + 1 + 1 + 1 ≠ w.heap.size; omega), h.b4.far _ _ (by show w.heap.size + 1 + 1 + 1 + 1 ≠ w.heap.size; omega)⟩
theorem Beg.whole0 (h : Beg w lo vp tv0 sv0 tv sv dv fuel m c W) {div : Value} {ci : Fr} (k : Lef W lo tv sv tv' sv' div m' ci W') :
  Beg w lo vp tv0 sv0 tv' sv' dv fuel m' c ((((((((W'.setCell ⟨w.heap.size, 0, none⟩ vp).setCell ⟨w.heap.size, 1, none⟩ (.int .i64 fuel)).setCell ⟨w.heap.size, 2, none⟩ (.bool m'.spent)).setCell ⟨w.heap.size, 3, none⟩ (.int .i64 m'.shared)).setCell ⟨w.heap.size, 4, none⟩ (.int .i64 m'.made)).setCell ⟨w.heap.size, 5, none⟩ (.int .i64 m'.deep)).setCell ⟨w.heap.size, 6, none⟩ tv').setCell ⟨w.heap.size, 7, none⟩ sv') := by
 refine ⟨h.st.whole0 k, ?_, ?_⟩
 ·iterate 8 refine Blk.far ?_ _ _ (by show w.heap.size + 1 + 1 + 1 ≠ w.heap.size; omega)
  exact k.blk h.st.e.tre h.st.e.prs h.b3 (by decide) (by decide)
 ·iterate 8 refine Blk.far ?_ _ _ (by show w.heap.size + 1 + 1 + 1 + 1 ≠ w.heap.size; omega)
  exact k.blk h.st.e.tre h.st.e.prs h.b4 (by decide) (by decide)
end
theorem prs_slice {w : World} {lo : Nat} {v : Value} {l : List (Int × Int)} (h : Prs w lo v l) : ∃ A n c, v = .slice A n c := by
 obtain ⟨A, c, rfl⟩ := own_slice h; exact ⟨_, _, _, rfl⟩
theorem tre_slice {w : World} {lo : Nat} {v : Value} {l : List Tr} (h : Tre w lo v l) : ∃ A n c, v = .slice A n c := by
 obtain ⟨A, c, rfl⟩ := own_slice h; exact ⟨_, _, _, rfl⟩
def Ret (w : World) (lo : Nat) (vp tv0 sv0 : Value) (fuel : Int) (m : M) (c : Fr) (e : Ending) (w' : World) : Prop :=
 ∃ tv sv dv, e = .returned (.tuple #[mval vp fuel m tv sv, fval c dv]) ∧ Lef w lo tv0 sv0 tv sv dv m c w'
set_option maxRecDepth 100000 in
set_option maxHeartbeats 4000000 in
theorem simple_any (lo : Nat) (vp tv sv dv : Value) (fuel : Int) (m : M) (c : Fr) (k a b : Int) (n K : Int) (hk : k = 1 ∨ k = 2 ∨ k = 3 ∨ k = 7 ∨ k = 9 ∨ k = 12 ∨ k = 13) (ha : 0 ≤ a ∧ a ≤ 3) (hb : k = 2 → 0 ≤ b ∧ b ≤ 3) (hm : WfM fuel K m) (hK : K ≤ 10000) (hc : WfF n c) (w : World) (he : Lef w lo tv sv tv sv dv m c w) (hlo : lo ≤ w.heap.size) (hvp : ∃ A n c, vp = .slice A n c) :
  Calls Try.prog 135 #[mval vp fuel m tv sv, fval c dv, .agg #[.int .i64 k, .int .i64 a, .int .i64 b]] w fun e w' => Ret w lo vp tv sv fuel (simple m c (k, a, b)).1 (simple m c (k, a, b)).2 e w' := by
 obtain ⟨Ap, np, cp, rfl⟩ := hvp
 obtain ⟨As, ns, cs, rfl⟩ := prs_slice he.prs
 obtain ⟨Ad, nd, cd, rfl⟩ := prs_slice he.dfs
 obtain ⟨At, nt, ct, rfl⟩ := tre_slice he.tre
 have hE := hid he
 have hlen : m.trace.length ≤ 100000 := by have := hm.pot; have := hm.made1; omega
 clear he
 obtain ⟨r, hr⟩ : ∃ r, simple m c (k, a, b) = r := ⟨_, rfl⟩
 have HR := hid hr
 rw [hr]
 have HM := hid hm
 have HC := hid hc
 have HB := hid hb
 clear hr hm hc hb
 unfold mval fval
 go_enter Try.func135, Try.ntmps135
 go_upto_block 0 with fail
 change (fun W => Code.wp _ _ _ _ W) _
 refine gen_world (X := BegS w lo (.slice Ap np cp) (.slice At nt ct) (.slice As ns cs) (.slice At nt ct) (.slice As ns cs) (.slice Ad nd cd) fuel m c (k, a, b))
  ⟨⟨⟨((((hE.out.alloc _).alloc _).alloc _).alloc _).alloc _, heap5_0 w _ _ _ _ _, heap5_1 w _ _ _ _ _, Nat.le_refl _, Nat.le_succ _⟩, heap5_3 w _ _ _ _ _, heap5_4 w _ _ _ _ _⟩, heap5_2 w _ _ _ _ _⟩ ?_
 intro W HX
 have X := hid HX.1
 have z2 := HX.2.cells
 clear HX
 go_cut [] (fun wx => Rel w lo (.slice Ap np cp) (.slice At nt ct) (.slice As ns cs) (.slice Ad nd cd) fuel r wx)
 case first =>
  obtain ⟨ha0, ha3⟩ := ha
  have ha4 : a < 4 := by omega
  clear ha3
  have z0 := X.out.st.b0.cells
  have y0 : W.cell? ⟨w.heap.size + 1, 0, none⟩ = some (.int .i64 c.f) := X.out.st.b1.cells 0
  have y5 : W.cell? ⟨w.heap.size + 1, 5, none⟩ = some (.int .i64 c.r3) := X.out.st.b1.cells 5
  have y10 : W.cell? ⟨w.heap.size + 1, 10, none⟩ = some (.bool c.deferred) := X.out.st.b1.cells 10
  have y11 : W.cell? ⟨w.heap.size + 1, 11, none⟩ = some (.bool c.panicking) := X.out.st.b1.cells 11
  have y12 : W.cell? ⟨w.heap.size + 1, 12, none⟩ = some (.int .i64 c.panic) := X.out.st.b1.cells 12
  have y13 : W.cell? ⟨w.heap.size + 1, 13, none⟩ = some (.bool c.recovered) := X.out.st.b1.cells 13
  have y14 : W.cell? ⟨w.heap.size + 1, 14, none⟩ = some (.int .i64 c.outer) := X.out.st.b1.cells 14
  have f0 := X.out.st.b0.frozen
  have f1 := X.out.st.b1.frozen
  have za := (X.out.st.b1.cells (2 + a.toNat)).trans (fcells_reg c _ a ha0 ha4)
  unfold mcells at z0
  rcases hk with rfl | rfl | rfl | rfl | rfl | rfl | rfl
  ·go_wp2_with fail
   go_meet
   obtain rfl := HR.out
   exact ⟨_, _, ⟨_, _, _, rfl⟩, ⟨_, _, _, rfl⟩, X.out.put1 (2 + a.toNat) _ (fcells_set c _ a b ha0 ha4) (setReg_defers _ _ _)⟩
  ·obtain ⟨hb0, hb3⟩ := HB.out rfl
   have hb4 : b < 4 := by omega
   have zb := (X.out.st.b1.cells (2 + b.toNat)).trans (fcells_reg c _ b hb0 hb4)
   have hw := hid (fun (V : World) => wrap_sum (reg c a) (reg c b) (reg_N HC.out a) (reg_N HC.out b) V)
   go_wp2_with fail
   refine wp_region_still_tail 16 (by kernel_rfl) (by kernel_rfl) ?_
   simp only [List.take_succ_cons, List.take_zero, List.drop_succ_cons, List.drop_zero]
   change wpStill _ _ W.drew _ _ _
   repeat still_step
   still_call ((hw.out W.drew).mono (fun e w' h => ⟨h.1, h.2.symm⟩))
   repeat still_step
   refine wpStill_nil ?_
   change wpList _ _ _ _ _ W.drew
   have hX := X.out.drew.put1 (2 + a.toNat) _ (fcells_set c _ a (wrap16 (reg c a + reg c b)) ha0 ha4) (setReg_defers _ _ _)
   have HX := hid hX
   have za' : W.drew.cell? ⟨w.heap.size + 1, 2 + a.toNat, none⟩ = some (.int .i64 (reg c a)) := za
   have f1' : ∀ o, W.drew.frozen? ⟨w.heap.size + 1, o, none⟩ = false := f1
   clear hX
   generalize W.drew = W2 at *
   go_wp2_with fail
   go_meet
   obtain rfl := HR.out
   exact ⟨_, _, ⟨_, _, _, rfl⟩, ⟨_, _, _, rfl⟩, HX.out⟩
  ·have hBd := X.out.drew
   have ht := hid (tell_any lo (.slice Ap np cp) fuel m (.slice At nt ct) (.slice As ns cs) 4 c.f (reg c a) hlen W.drew hBd.st.e.tre (Nat.le_trans hlo X.out.st.e.chg.size) ⟨_, _, _, rfl⟩ ⟨_, _, _, rfl⟩)
   have HBd := hid hBd
   unfold mval at ht
   clear hBd
   go_wp2_with fail
   refine wp_region_still_tail 8 (by kernel_rfl) (by kernel_rfl) ?_
   simp only [List.take_succ_cons, List.take_zero, List.drop_succ_cons, List.drop_zero]
   change wpStill _ _ W.drew _ _ _
   repeat still_step
   refine wpStill_nil ?_
   change wpList _ _ _ _ _ W.drew
   clear z0 y0 y5 y10 y11 y12 y13 y14 f0 f1 za z2
   generalize W.drew = W2 at *
   go_wp2_with fail
   refine ht.out.mono ?_
   rintro e w' ⟨tv', rfl, t1, t2, t3⟩
   obtain ⟨A2, n2, c2, rfl⟩ := tre_slice t1
   have hk := tell_end HBd.out.st t1 t2 t3
   have z0 := (hk.blk HBd.out.st.e.tre HBd.out.st.e.prs HBd.out.st.b0 (by decide) (by decide)).cells
   have f0 := (hk.blk HBd.out.st.e.tre HBd.out.st.e.prs HBd.out.st.b0 (by decide) (by decide)).frozen
   unfold mcells at z0
   have HK := hid hk
   clear hk t1 t2 t3
   go_wp2_with fail
   go_meet
   obtain rfl := HR.out
   exact ⟨_, _, ⟨_, _, _, rfl⟩, ⟨_, _, _, rfl⟩, HBd.out.whole0 HK.out⟩
  ·have hd : (c.panicking = true ∧ c.recovered = false) ∨ c.panicking = false ∨ (c.panicking = true ∧ c.recovered = true) := by cases c.panicking <;> cases c.recovered <;> simp
   rcases hd with ⟨hd, hd2⟩ | hd | ⟨hd, hd2⟩
   ·have HD := hid hd
    have HD2 := hid hd2
    rw [hd] at y11
    rw [hd2] at y13
    clear hd hd2
    have q1 := X.out.put1 (c' := { c with recovered := true }) 13 (.bool true) rfl rfl
    have q2 := q1.put1 (2 + a.toNat) (.int .i64 c.panic) (fcells_set { c with recovered := true } _ a c.panic ha0 ha4) (setReg_defers _ _ _)
    have q3 := q2.put1 5 (.int .i64 1) (fcells_set (setReg { c with recovered := true } a c.panic) _ 3 1 (by omega) (by omega)) (setReg_defers _ _ _)
    have h5 := q2.st.b1.cells 5
    obtain ⟨v5, hv5⟩ : ∃ v, (fcells (setReg { c with recovered := true } a c.panic) (.slice Ad nd cd))[5]? = some v := ⟨_, rfl⟩
    rw [hv5] at h5
    have Q3 := hid q3
    clear q1 q2 q3 hv5
    go_upto_region 20 with fail
    have ht := hid (fun (V : World) (B : Beg w lo (.slice Ap np cp) (.slice At nt ct) (.slice As ns cs) (.slice At nt ct) (.slice As ns cs) (.slice Ad nd cd) fuel m (setReg (setReg { c with recovered := true } a c.panic) 3 1) V) =>
     tell_any lo (.slice Ap np cp) fuel m (.slice At nt ct) (.slice As ns cs) 6 c.f c.panic hlen V B.st.e.tre (Nat.le_trans hlo B.st.e.chg.size) ⟨_, _, _, rfl⟩ ⟨_, _, _, rfl⟩)
    unfold mval at ht
    clear z0 y0 y5 y10 y11 y12 y13 y14 f0 f1 za z2 h5
    generalize ((W.setCell ⟨w.heap.size + 1, 13, none⟩ (.bool true)).setCell ⟨w.heap.size + 1, 2 + a.toNat, none⟩ (.int .i64 c.panic)).setCell ⟨w.heap.size + 1, 5, none⟩ (.int .i64 1) = W2 at *
    have z0 := Q3.out.st.b0.cells
    have y0 : W2.cell? ⟨w.heap.size + 1, 0, none⟩ = some (.int .i64 c.f) := (Q3.out.st.b1.cells 0).trans (by simp [fcells, setReg_f])
    have y12 : W2.cell? ⟨w.heap.size + 1, 12, none⟩ = some (.int .i64 c.panic) := (Q3.out.st.b1.cells 12).trans (by simp [fcells, (setReg_same _ _ _).2.2.2.2])
    unfold mcells at z0
    go_wp2_with fail
    refine (ht.out W2 Q3.out).mono ?_
    rintro e w' ⟨tv', rfl, t1, t2, t3⟩
    obtain ⟨A2, n2, c2, rfl⟩ := tre_slice t1
    have hk := tell_end Q3.out.st t1 t2 t3
    clear z0
    have z0 := (hk.blk Q3.out.st.e.tre Q3.out.st.e.prs Q3.out.st.b0 (by decide) (by decide)).cells
    have f0 := (hk.blk Q3.out.st.e.tre Q3.out.st.e.prs Q3.out.st.b0 (by decide) (by decide)).frozen
    unfold mcells at z0
    have HK := hid hk
    clear hk t1 t2 t3
    go_wp2_with fail
    go_meet
    obtain rfl := HR.out
    refine ⟨.slice A2 n2 c2, .slice As ns cs, ⟨_, _, _, rfl⟩, ⟨_, _, _, rfl⟩, ?_⟩
    have e : simple m c (7, a, b) = (tell m 6 c.f c.panic, setReg (setReg { c with recovered := true } a c.panic) 3 1) := by simp [simple, HD.out, HD2.out]
    rw [e]
    exact Q3.out.whole0 HK.out
   ·have HD := hid hd
    rw [hd] at y11
    clear hd
    have q2 := X.out.put1 (2 + a.toNat) (.int .i64 0) (fcells_set c _ a 0 ha0 ha4) (setReg_defers _ _ _)
    have q3 := q2.put1 5 (.int .i64 0) (fcells_set (setReg c a 0) _ 3 0 (by omega) (by omega)) (setReg_defers _ _ _)
    have h5 := q2.st.b1.cells 5
    obtain ⟨v5, hv5⟩ : ∃ v, (fcells (setReg c a 0) (.slice Ad nd cd))[5]? = some v := ⟨_, rfl⟩
    rw [hv5] at h5
    have Q3 := hid q3
    clear q2 q3 hv5
    go_wp2_with fail
    go_meet
    obtain rfl := HR.out
    refine ⟨.slice At nt ct, .slice As ns cs, ⟨_, _, _, rfl⟩, ⟨_, _, _, rfl⟩, ?_⟩
    have e : simple m c (7, a, b) = (m, setReg (setReg c a 0) 3 0) := by simp [simple, HD.out]
    rw [e]
    exact Q3.out
   ·have HD := hid hd
    have HD2 := hid hd2
    rw [hd] at y11
    rw [hd2] at y13
    clear hd hd2
    have q2 := X.out.put1 (2 + a.toNat) (.int .i64 0) (fcells_set c _ a 0 ha0 ha4) (setReg_defers _ _ _)
    have q3 := q2.put1 5 (.int .i64 0) (fcells_set (setReg c a 0) _ 3 0 (by omega) (by omega)) (setReg_defers _ _ _)
    have h5 := q2.st.b1.cells 5
    obtain ⟨v5, hv5⟩ : ∃ v, (fcells (setReg c a 0) (.slice Ad nd cd))[5]? = some v := ⟨_, rfl⟩
    rw [hv5] at h5
    have Q3 := hid q3
    clear q2 q3 hv5
    go_wp2_with fail
    go_meet
    obtain rfl := HR.out
    refine ⟨.slice At nt ct, .slice As ns cs, ⟨_, _, _, rfl⟩, ⟨_, _, _, rfl⟩, ?_⟩
    have e : simple m c (7, a, b) = (m, setReg (setReg c a 0) 3 0) := by simp [simple, HD.out, HD2.out]
    rw [e]
    exact Q3.out
  ·have hd : c.deferred = true ∨ c.deferred = false := by cases c.deferred <;> simp
   rcases hd with hd | hd
   ·have HD := hid hd
    rw [hd] at y10
    clear hd
    go_wp2_with fail
    go_meet
    obtain rfl := HR.out
    refine ⟨.slice At nt ct, .slice As ns cs, ⟨_, _, _, rfl⟩, ⟨_, _, _, rfl⟩, ?_⟩
    have e : simple m c (9, a, b) = (m, { c with outer := reg c a }) := by simp [simple, HD.out]
    rw [e]
    exact X.out.put1 14 _ rfl rfl
   ·have HD := hid hd
    rw [hd] at y10
    clear hd
    go_wp2_with fail
    go_meet
    obtain rfl := HR.out
    refine ⟨.slice At nt ct, .slice As ns cs, ⟨_, _, _, rfl⟩, ⟨_, _, _, rfl⟩, ?_⟩
    have e : simple m c (9, a, b) = (m, c) := by simp [simple, HD.out]
    rw [e]
    exact X.out
  ·go_wp2_with fail
   go_meet
   obtain rfl := HR.out
   exact ⟨_, _, ⟨_, _, _, rfl⟩, ⟨_, _, _, rfl⟩, X.out.put0 3 _ rfl rfl rfl⟩
  ·go_wp2_with fail
   go_meet
   obtain rfl := HR.out
   exact ⟨_, _, ⟨_, _, _, rfl⟩, ⟨_, _, _, rfl⟩, X.out.put1 (2 + a.toNat) _ (fcells_set c _ a m.shared ha0 ha4) (setReg_defers _ _ _)⟩
 case rest =>
  obtain ⟨tv', sv', ⟨A2, n2, c2, rfl⟩, ⟨A3, n3, c3, rfl⟩, hB⟩ := hcut
  obtain ⟨m', c'⟩ := r
  have z0 := hB.st.b0.cells
  have z1 := hB.st.b1.cells
  have z3 := hB.b3.cells
  have z4 := hB.b4.cells
  have f3 := hB.b3.frozen
  have f4 := hB.b4.frozen
  dsimp only at hB
  have HBd := hid hB
  clear hB
  unfold mcells at z0
  unfold fcells at z1
  unfold mz at z3
  unfold fz at z4
  go_wp2_with fail
  go_region
  change (fun V => Exit.then _ _ _ _ V) _
  refine gen_world (X := fun V => Lef w lo (.slice At nt ct) (.slice As ns cs) (.slice A2 n2 c2) (.slice A3 n3 c3) (.slice Ad nd cd) m' c' V ∧ Blk V (w.heap.size + 1 + 1 + 1) 151 (mcells (.slice Ap np cp) fuel m' (.slice A2 n2 c2) (.slice A3 n3 c3)) ∧ Blk V (w.heap.size + 1 + 1 + 1 + 1) 154 (fcells c' (.slice Ad nd cd))) ?_ ?_
  ·have o := outs (vp := .slice Ap np cp) (fuel := fuel) HBd.out.st.e HBd.out.b3 HBd.out.b4 (by omega) (by omega) (by omega)
   exact ⟨o.1.drew, blk_drew o.2.1, blk_drew o.2.2⟩
  intro V hV
  obtain ⟨v0, v1, v2⟩ := hV
  have V0 := hid v0
  have V1 := v1.cells
  have V2 := v2.cells
  clear v0 v1 v2 z0 z1 z3 z4 f3 f4
  unfold mcells at V1
  unfold fcells at V2
  go_wp2_with fail
  exact bodyPost_ret (v := .tuple #[mval (.slice Ap np cp) fuel m' (.slice A2 n2 c2) (.slice A3 n3 c3), fval c' (.slice Ad nd cd)]) (by simp [results, Try.results135, go_sem, V1, V2, mval, fval]) rfl ⟨_, _, _, rfl, V0.out⟩
end Go.Proofs.Ythejnpignlhgiaa.Ssim
-- squeezed
