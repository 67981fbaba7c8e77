import Derived.Test.YthejnpignlhgiaaSsim
import Derived.Test.YthejnpignlhgiaaM3
set_option linter.all false
namespace Go.Proofs.Ythejnpignlhgiaa.Smk
open Go.ChangeShapes Go.WideShapes Go.ChangeAt Go.RowKit
open PL Mem Srun Sst Ssim
def Ret3 (w : World) (lo : Nat) (vp tv0 sv0 : Value) (fuel : Int) (r : M × Fr × Int) (e : Ending) (w' : World) : Prop :=
 ∃ tv sv dv, e = .returned (.tuple #[mval vp fuel r.1 tv sv, fval r.2.1 dv, .int .i64 r.2.2]) ∧ Lef w lo tv0 sv0 tv sv dv r.1 r.2.1 w'
theorem cell_far (W : World) (g g' i o : Nat) (u : Value) (h : g ≠ g') : (W.setCell ⟨g', i, none⟩ u).cell? ⟨g, o, none⟩ = W.cell? ⟨g, o, none⟩ := World.cell?_of_block (Below.heap_setCell W _ u g h)
theorem results_cct {fn : Func} {p q u v : Nat} {t : Tmp} (h : fn.results = #[.cell p u, .cell q v, .tmp t]) : True := trivial
def CallOk (lo : Nat) (Ap : Option Addr) (np cp : Nat) (p : Pg) (fuel N D : Int) (inner : PL.Call) : Prop :=
 ∀ (K : Int) (m : M) (c : Fr) (tv sv : Value) (W : World), WfM fuel K m → K ≤ 9000 → WfF N c → c.depth = D → c.defers = [] → RdP W lo Ap p → Lef W lo tv sv tv sv (.slice none 0 0) m c W → lo ≤ W.heap.size →
  Calls Try.prog 111 #[mval (.slice Ap np cp) fuel m tv sv, fval c (.slice none 0 0)] W fun e w' => Ret W lo (.slice Ap np cp) tv sv fuel (inner m c).1 (inner m c).2 e w'
theorem lef_rd {w W : World} {lo : Nat} {tv0 sv0 tv sv dv : Value} {m m0 : M} {c c0 : Fr} {dv0 : Value} {tvx svx : Value} {A : Option Addr} {p : Pg} (h : Lef w lo tv0 sv0 tv sv dv m c W) (h0 : Lef w lo tvx svx tv0 sv0 dv0 m0 c0 w) (hlo : lo ≤ w.heap.size) (hr : RdP w lo A p) : RdP W lo A p :=
 hr.below (h.chg.below hlo (fun x hx hc => by
  rcases hc with hc | hc
  ·have := (h0.tre.lt x hc).1; omega
  ·have := (h0.prs.lt x hc).1; omega))
end Go.Proofs.Ythejnpignlhgiaa.Smk

namespace Go.Proofs.Ythejnpignlhgiaa.Smk
open Go.ChangeShapes Go.WideShapes Go.ChangeAt Go.RowKit
open PL Mem Srun Sst Ssim
def CallOkN (lo : Nat) (Ap : Option Addr) (np cp : Nat) (p : Pg) (fuel N D : Int) (inner : PL.Call) : Prop :=
 ∀ (K : Int) (m : M) (c : Fr) (tv sv : Value) (W : World), WfM fuel K m → K ≤ 9000 → WfF N c → c.depth = D → c.defers = [] → RdP W lo Ap p → Lef W lo tv sv tv sv (.slice none 0 0) m c W → lo ≤ W.heap.size → m.spent = false →
  Calls Try.prog 111 #[mval (.slice Ap np cp) fuel m tv sv, fval c (.slice none 0 0)] W fun e w' => Ret W lo (.slice Ap np cp) tv sv fuel (inner m c).1 (inner m c).2 e w'
end Go.Proofs.Ythejnpignlhgiaa.Smk

namespace Go.Proofs.Ythejnpignlhgiaa.App
open Go.ChangeShapes Go.WideShapes Go.ChangeAt Go.RowKit
open PL Mem Srun Sst Ssim
theorem cells2_one {l : List (Int × Int)} : ∀ u ∈ cells2 l, u.oneCell' = true := by
 induction l with
 | nil => intro u hu; simp [cells2] at hu
 | cons s l ih =>
  intro u hu
  rw [cells2_cons] at hu
  rcases List.mem_cons.1 hu with rfl | hu
  ·rfl
  ·rcases List.mem_cons.1 hu with rfl | hu
   ·rfl
   ·exact ih u hu
theorem keep_store {V : World} {g k : Nat} {x y z u : Value} (hk : k < 4) (h : V.cell? ⟨g + 1, 1, none⟩ = some x ∧ V.cell? ⟨g + 1, 2, none⟩ = some y ∧ V.cell? ⟨g, 2 + k, none⟩ = some z ∧ V.frozen? ⟨g, 6, none⟩ = false) :
  (V.setCell ⟨g, 6, none⟩ u).cell? ⟨g + 1, 1, none⟩ = some x ∧ (V.setCell ⟨g, 6, none⟩ u).cell? ⟨g + 1, 2, none⟩ = some y ∧ (V.setCell ⟨g, 6, none⟩ u).cell? ⟨g, 2 + k, none⟩ = some z ∧ (V.setCell ⟨g, 6, none⟩ u).frozen? ⟨g, 6, none⟩ = false :=
 ⟨(World.cell?_setCell_other _ _ _ _ (by simp)).trans h.1, (World.cell?_setCell_other _ _ _ _ (by simp)).trans h.2.1, (World.cell?_setCell_other _ _ _ _ (by intro e; have := congrArg Addr.off e; simp only at this; omega)).trans h.2.2.1, by simpa using h.2.2.2⟩
theorem defer_world {w W w2 : World} {lo : Nat} {vp tv0 sv0 tv sv dv v2 : Value} {fuel : Int} {m : M} {c : Fr} {ds : List (Int × Int)} (h : Beg w lo vp tv0 sv0 tv sv dv fuel m c W) (hb : Bl W w2) (ho : Prs w2 W.heap.size v2 ds) (hlo : lo ≤ w.heap.size) :
  Beg w lo vp tv0 sv0 tv sv v2 fuel m { c with defers := ds } (w2.setCell ⟨w.heap.size + 1, 6, none⟩ v2) := by
 have hs := h.st.e.chg.size
 have b0 := h.st.b0.below hb h.st.b0.lt
 have b1 := h.st.b1.below hb h.st.b1.lt
 have b3 := h.b3.below hb h.b3.lt
 have b4 := h.b4.below hb h.b4.lt
 have e : Lef w lo tv0 sv0 tv sv v2 m { c with defers := ds } w2 :=
  ⟨h.st.e.tre.below hb, h.st.e.prs.below hb, World.ownsRow.mono ho (Nat.le_trans hlo hs), h.st.e.chg.trans (D := fun _ => False) ⟨hb.os, hb.tape, hb.output, hb.size, fun k hk _ => hb.block k hk⟩ (fun _ _ hd => hd.elim), h.st.e.ft, h.st.e.fs, fun x hx hx' => by
   have := (ho.lt x hx).1
   have := (h.st.e.prs.lt x hx').2
   omega⟩
 refine ⟨⟨e.put b1 (by omega) (by decide) (by decide) 6 v2, b0.far _ _ (by show w.heap.size ≠ w.heap.size + 1; omega), b1.put 6 v2, h.st.h0, h.st.h1⟩, b3.far _ _ (by show w.heap.size + 1 + 1 + 1 ≠ w.heap.size + 1; omega), b4.far _ _ (by show w.heap.size + 1 + 1 + 1 + 1 ≠ w.heap.size + 1; omega)⟩
end Go.Proofs.Ythejnpignlhgiaa.App

namespace Go.Proofs.Ythejnpignlhgiaa.Slast0
open Go.ChangeShapes Go.WideShapes Go.ChangeAt Go.RowKit
open PL Mem Srun Sst Ssim
open Smk
theorem pair_at {w : World} {B n c : Nat} {A : Option Addr} {l : List (Int × Int)} (h : w.ownsRow B 177 2 (.slice A n c) n (cells2 l)) {k : Nat} {d : Int × Int} (hd : l[k]? = some d) (hk : k < n) :
  ∃ g, A = some ⟨g, 0, none⟩ ∧ g < w.heap.size ∧ w.cell? ⟨g, k * 2, none⟩ = some (.int .i64 d.1) ∧ w.cell? ⟨g, k * 2 + 1, none⟩ = some (.int .i64 d.2) := by
 rcases own_form h with ⟨h0, _⟩ | ⟨_, g, cap, hv, _, hg⟩
 ·omega
 ·simp only [Value.slice.injEq, true_and] at hv
  obtain ⟨rfl, rfl⟩ := hv
  obtain ⟨c0, c1⟩ := cells2_at l k d hd
  exact ⟨g, rfl, hg, (h.cellAt (k * 2) (by omega)).trans c0, (h.cellAt (k * 2 + 1) (by omega)).trans c1⟩
theorem own_shrink {w : World} {B e sz n m c : Nat} {A : Option Addr} {xs : List Value} (h : w.ownsRow B e sz (.slice A n c) n xs) (hm : m ≤ n) : w.ownsRow B e sz (.slice A m c) m (xs.take (m * sz)) := by
 have hms : m * sz ≤ n * sz := Nat.mul_le_mul_right sz hm
 rcases h.2 with ⟨hv, rfl⟩ | ⟨g, cap, cur, hv, hB, hg, hnc, hcm, hcs, ht⟩
 ·simp only [Value.slice.injEq] at hv
  obtain ⟨rfl, _, rfl⟩ := hv
  obtain rfl : m = 0 := by omega
  exact ⟨by simp, .inl ⟨rfl, rfl⟩⟩
 ·simp only [Value.slice.injEq, true_and] at hv
  obtain ⟨rfl, rfl⟩ := hv
  refine ⟨by rw [List.length_take, h.1]; omega, .inr ⟨g, c, cur, rfl, hB, hg, by omega, hcm, hcs, ?_⟩⟩
  rw [← ht, List.take_take, Nat.min_eq_left hms]
theorem prs_front {w : World} {lo n c : Nat} {A : Option Addr} {ds : List (Int × Int)} {d : Int × Int} (h : w.ownsRow lo 177 2 (.slice A n c) n (cells2 (ds ++ [d]))) (hn : ds.length ≤ n) : w.ownsRow lo 177 2 (.slice A ds.length c) ds.length (cells2 ds) := by
 have := own_shrink h hn
 rwa [cells2_append, List.take_append_of_le_length (by rw [cells2_length]; exact Nat.le_refl _), List.take_of_length_le (by rw [cells2_length]; exact Nat.le_refl _)] at this
theorem own_cap {w : World} {B e sz n c : Nat} {A : Option Addr} {xs : List Value} (h : w.ownsRow B e sz (.slice A n c) n xs) : n ≤ c := by
 rcases h.2 with ⟨hv, rfl⟩ | ⟨g, cap, cur, hv, hB, hg, hnc, _⟩
 ·simp only [Value.slice.injEq] at hv
  omega
 ·simp only [Value.slice.injEq, true_and] at hv
  omega
def lf0 (c : Fr) (d : Int × Int) : Fr := { newFrame d.1 (c.depth + 1) d.2 with deferred := true, outer := c.r1 }
theorem lf_panic {c : Fr} {d : Int × Int} (h : c.kind = 2) : lastFrame c d = { lf0 c d with panicking := true, panic := c.value } := by simp [lastFrame, lf0, h]
theorem lf_calm {c : Fr} {d : Int × Int} (h : c.kind ≠ 2) : lastFrame c d = lf0 c d := by simp [lastFrame, lf0, h, newFrame]
def e1 (c i : Fr) : Fr := { c with r1 := i.outer, leaving := c.leaving || i.leaving }
def e2 (c i : Fr) : Fr := if i.recovered then { c with kind := if c.leaving then 3 else 1 } else c
def e3 (c i : Fr) : Fr := if i.kind = 2 then { c with kind := 2, value := i.value } else c
def e4 (c i : Fr) : Fr := if i.kind = 3 then { c with kind := 3 } else c
theorem lastEnd_eq (c i : Fr) : lastEnd c i = e4 (e3 (e2 (e1 c i) i) i) i := by
 unfold lastEnd e4 e3 e2 e1
 by_cases h2 : i.kind = 2
 ·have h3 : i.kind ≠ 3 := by omega
  cases hr : i.recovered <;> simp [h2, h3, hr]
 ·by_cases h3 : i.kind = 3
  ·cases hr : i.recovered <;> simp [h2, h3, hr]
  ·cases hr : i.recovered <;> simp [h2, h3, hr]
theorem e2_yes {c i : Fr} (h : i.recovered = true) : e2 c i = { c with kind := if c.leaving then 3 else 1 } := by simp [e2, h]
theorem e2_no {c i : Fr} (h : i.recovered = false) : e2 c i = c := by simp [e2, h]
structure BegL (w : World) (lo : Nat) (vp tv0 sv0 tv sv dv : Value) (fuel : Int) (m : M) (c : Fr) (W : World) : Prop where
 st : Sta w lo w.heap.size (w.heap.size + 1) vp tv0 sv0 tv sv dv fuel m c W
 b2 : Blk W (w.heap.size + 1 + 1) 151 mz
 b3 : Blk W (w.heap.size + 1 + 1 + 1) 154 fz
structure BegI (w : World) (lo : Nat) (vp tv0 sv0 tv sv dv : Value) (fuel : Int) (m : M) (c : Fr) (H : Nat) (i : Fr) (div : Value) (W : World) : Prop where
 b : BegL w lo vp tv0 sv0 tv sv dv fuel m c W
 i : Blk W H 154 (fcells i div)
 h : w.heap.size + 1 + 1 + 1 < H
section
variable {w W W' : World} {lo : Nat} {vp tv0 sv0 tv sv dv tv' sv' div : Value} {fuel : Int} {m m' : M} {c c' i i' : Fr} {H : Nat}
theorem BegL.drew (h : BegL w lo vp tv0 sv0 tv sv dv fuel m c W) : BegL w lo vp tv0 sv0 tv sv dv fuel m c W.drew := ⟨h.st.drew, h.b2, h.b3⟩
theorem BegL.alloc (h : BegL w lo vp tv0 sv0 tv sv dv fuel m c W) (o : Obj) : BegL w lo vp tv0 sv0 tv sv dv fuel m c (W.alloc o) := ⟨h.st.alloc o, h.b2.alloc o, h.b3.alloc o⟩
theorem BegL.put1 (h : BegL w lo vp tv0 sv0 tv sv dv fuel m c W) (j : Nat) (u : Value) (hs : (fcells c dv).setIfInBounds j u = fcells c' dv) (hd : c'.defers = c.defers) : BegL w lo vp tv0 sv0 tv sv dv fuel m c' (W.setCell ⟨w.heap.size + 1, j, none⟩ u) :=
 ⟨h.st.put1 j u hs hd, h.b2.far _ _ (by show w.heap.size + 1 + 1 ≠ w.heap.size + 1; omega), h.b3.far _ _ (by show w.heap.size + 1 + 1 + 1 ≠ w.heap.size + 1; omega)⟩
theorem BegL.far (h : BegL w lo vp tv0 sv0 tv sv dv fuel m c W) (p : Addr) (u : Value) (h1 : tv.ownBlock ≠ some p.block) (h2 : sv.ownBlock ≠ some p.block) (h3 : dv.ownBlock ≠ some p.block) (hg : w.heap.size + 3 < p.block) : BegL w lo vp tv0 sv0 tv sv dv fuel m c (W.setCell p u) :=
 ⟨⟨h.st.e.far p u h1 h2 h3 (by omega), h.st.b0.far p u (by omega), h.st.b1.far p u (by omega), h.st.h0, h.st.h1⟩, h.b2.far p u (by omega), h.b3.far p u (by omega)⟩
theorem BegI.put1 (h : BegI w lo vp tv0 sv0 tv sv dv fuel m c H i div W) (j : Nat) (u : Value) (hs : (fcells c dv).setIfInBounds j u = fcells c' dv) (hd : c'.defers = c.defers) : BegI w lo vp tv0 sv0 tv sv dv fuel m c' H i div (W.setCell ⟨w.heap.size + 1, j, none⟩ u) :=
 ⟨h.b.put1 j u hs hd, h.i.far _ _ (by show H ≠ w.heap.size + 1; have := h.h; omega), h.h⟩
theorem BegI.puti (h : BegI w lo vp tv0 sv0 tv sv dv fuel m c H i div W) (j : Nat) (u : Value) (hs : (fcells i div).setIfInBounds j u = fcells i' div) : BegI w lo vp tv0 sv0 tv sv dv fuel m c H i' div (W.setCell ⟨H, j, none⟩ u) :=
 ⟨h.b.far _ _ (blk_apart h.b.st.e.tre h.i (by decide)) (blk_apart h.b.st.e.prs h.i (by decide)) (blk_apart h.b.st.e.dfs h.i (by decide)) (by have := h.h; show w.heap.size + 3 < H; omega), hs ▸ h.i.put j u, h.h⟩
theorem BegI.drew (h : BegI w lo vp tv0 sv0 tv sv dv fuel m c H i div W) : BegI w lo vp tv0 sv0 tv sv dv fuel m c H i div W.drew := ⟨h.b.drew, h.i, h.h⟩
theorem BegL.defers {w2 : World} {v2 : Value} {ds : List (Int × Int)} (h : BegL w lo vp tv0 sv0 tv sv dv fuel m c W) (hb : App.Bl W w2) (ho : Prs w2 W.heap.size v2 ds) (hlo : lo ≤ w.heap.size) :
  BegL w lo vp tv0 sv0 tv sv v2 fuel m { c with defers := ds } (w2.setCell ⟨w.heap.size + 1, 6, none⟩ v2) := by
 have hs := h.st.e.chg.size
 have b0 := h.st.b0.below hb h.st.b0.lt
 have b1 := h.st.b1.below hb h.st.b1.lt
 have b2 := h.b2.below hb h.b2.lt
 have b3 := h.b3.below hb h.b3.lt
 have e : Lef w lo tv0 sv0 tv sv v2 m { c with defers := ds } w2 :=
  ⟨h.st.e.tre.below hb, h.st.e.prs.below hb, World.ownsRow.mono ho (Nat.le_trans hlo hs), h.st.e.chg.trans (D := fun _ => False) ⟨hb.os, hb.tape, hb.output, hb.size, fun k hk _ => hb.block k hk⟩ (fun _ _ hd => hd.elim), h.st.e.ft, h.st.e.fs, fun x hx hx' => by
   have := (ho.lt x hx).1
   have := (h.st.e.prs.lt x hx').2
   omega⟩
 exact ⟨⟨e.put b1 (by omega) (by decide) (by decide) 6 v2, b0.far _ _ (by show w.heap.size ≠ w.heap.size + 1; omega), b1.put 6 v2, h.st.h0, h.st.h1⟩, b2.far _ _ (by show w.heap.size + 1 + 1 ≠ w.heap.size + 1; omega), b3.far _ _ (by show w.heap.size + 1 + 1 + 1 ≠ w.heap.size + 1; omega)⟩
theorem BegL.whole0 (h : BegL w lo vp tv0 sv0 tv sv dv fuel m c W) {ci : Fr} (k : Lef W lo tv sv tv' sv' div m' ci W') :
  BegL w lo vp tv0 sv0 tv' sv' dv fuel m' c ((((((((W'.setCell ⟨w.heap.size, 0, none⟩ (vp)).setCell ⟨w.heap.size, 1, none⟩ (.int .i64 fuel)).setCell ⟨w.heap.size, 2, none⟩ (.bool m'.spent)).setCell ⟨w.heap.size, 3, none⟩ (.int .i64 m'.shared)).setCell ⟨w.heap.size, 4, none⟩ (.int .i64 m'.made)).setCell ⟨w.heap.size, 5, none⟩ (.int .i64 m'.deep)).setCell ⟨w.heap.size, 6, none⟩ (tv')).setCell ⟨w.heap.size, 7, none⟩ (sv')) := by
 refine ⟨h.st.whole0 k, ?_, ?_⟩
 ·iterate 8 refine Blk.far ?_ _ _ (by show w.heap.size + 1 + 1 ≠ w.heap.size; omega)
  exact k.blk h.st.e.tre h.st.e.prs h.b2 (by decide) (by decide)
 ·iterate 8 refine Blk.far ?_ _ _ (by show w.heap.size + 1 + 1 + 1 ≠ w.heap.size; omega)
  exact k.blk h.st.e.tre h.st.e.prs h.b3 (by decide) (by decide)
theorem last_world {c0 : Fr} {dv0 : Value} (h : BegI w lo vp tv0 sv0 tv sv dv fuel m c H c0 dv0 W) (k : Lef W lo tv sv tv' sv' div m' i W') :
  BegI w lo vp tv0 sv0 tv' sv' dv fuel m' c H i div (((((((((((((((((((((((W'.setCell ⟨w.heap.size, 0, none⟩ (vp)).setCell ⟨w.heap.size, 1, none⟩ (.int .i64 fuel)).setCell ⟨w.heap.size, 2, none⟩ (.bool m'.spent)).setCell ⟨w.heap.size, 3, none⟩ (.int .i64 m'.shared)).setCell ⟨w.heap.size, 4, none⟩ (.int .i64 m'.made)).setCell ⟨w.heap.size, 5, none⟩ (.int .i64 m'.deep)).setCell ⟨w.heap.size, 6, none⟩ (tv')).setCell ⟨w.heap.size, 7, none⟩ (sv')).setCell ⟨H, 0, none⟩ (.int .i64 i.f)).setCell ⟨H, 1, none⟩ (.int .i64 i.depth)).setCell ⟨H, 2, none⟩ (.int .i64 i.r0)).setCell ⟨H, 3, none⟩ (.int .i64 i.r1)).setCell ⟨H, 4, none⟩ (.int .i64 i.r2)).setCell ⟨H, 5, none⟩ (.int .i64 i.r3)).setCell ⟨H, 6, none⟩ (div)).setCell ⟨H, 7, none⟩ (.int .i64 i.kind)).setCell ⟨H, 8, none⟩ (.int .i64 i.value)).setCell ⟨H, 9, none⟩ (.bool i.leaving)).setCell ⟨H, 10, none⟩ (.bool i.deferred)).setCell ⟨H, 11, none⟩ (.bool i.panicking)).setCell ⟨H, 12, none⟩ (.int .i64 i.panic)).setCell ⟨H, 13, none⟩ (.bool i.recovered)).setCell ⟨H, 14, none⟩ (.int .i64 i.outer)) := by
 have hh := h.h
 have b := h.b.whole0 k
 have bn : Blk W' H 154 (fcells c0 dv0) := k.blk h.b.st.e.tre h.b.st.e.prs h.i (by decide) (by decide)
 have bn2 : Blk ((((((((W'.setCell ⟨w.heap.size, 0, none⟩ (vp)).setCell ⟨w.heap.size, 1, none⟩ (.int .i64 fuel)).setCell ⟨w.heap.size, 2, none⟩ (.bool m'.spent)).setCell ⟨w.heap.size, 3, none⟩ (.int .i64 m'.shared)).setCell ⟨w.heap.size, 4, none⟩ (.int .i64 m'.made)).setCell ⟨w.heap.size, 5, none⟩ (.int .i64 m'.deep)).setCell ⟨w.heap.size, 6, none⟩ (tv')).setCell ⟨w.heap.size, 7, none⟩ (sv')) H 154 (fcells c0 dv0) := by
  iterate 8 refine Blk.far ?_ _ _ (by show H ≠ w.heap.size; omega)
  exact bn
 have n1 := blk_apart b.st.e.tre bn2 (by decide)
 have n2 := blk_apart b.st.e.prs bn2 (by decide)
 have n3 := blk_apart b.st.e.dfs bn2 (by decide)
 refine ⟨?_, ?_, hh⟩
 ·iterate 15 refine BegL.far ?_ _ _ n1 n2 n3 (by show w.heap.size + 3 < H; omega)
  exact b
 ·exact Blk.set15 (a0 := .int .i64 c0.f) (a1 := .int .i64 c0.depth) (a2 := .int .i64 c0.r0) (a3 := .int .i64 c0.r1) (a4 := .int .i64 c0.r2) (a5 := .int .i64 c0.r3) (a6 := dv0) (a7 := .int .i64 c0.kind) (a8 := .int .i64 c0.value) (a9 := .bool c0.leaving) (a10 := .bool c0.deferred) (a11 := .bool c0.panicking) (a12 := .int .i64 c0.panic) (a13 := .bool c0.recovered) (a14 := .int .i64 c0.outer) bn2 _ _ _ _ _ _ _ _ _ _ _ _ _ _ _
end
end Go.Proofs.Ythejnpignlhgiaa.Slast0

namespace Go.Proofs.Ythejnpignlhgiaa.Slast1
open PL Mem Srun Sst Ssim Smk Slast0
theorem e2_t {c i : Fr} (h : i.recovered = true) (hl : c.leaving = true) : e2 c i = { c with kind := 3 } := by simp [e2, h, hl]
theorem e2_f {c i : Fr} (h : i.recovered = true) (hl : c.leaving = false) : e2 c i = { c with kind := 1 } := by simp [e2, h, hl]
def lastRes (inner : PL.Call) (m : M) (c : Fr) (ds : List (Int × Int)) (d : Int × Int) : M × Fr :=
 if (inner m (lastFrame c d)).1.spent then ((inner m (lastFrame c d)).1, { c with defers := ds }) else ((inner m (lastFrame c d)).1, lastEnd { c with defers := ds } (inner m (lastFrame c d)).2)
end Go.Proofs.Ythejnpignlhgiaa.Slast1

namespace Go.Proofs.Ythejnpignlhgiaa.Sinn0
open Go.ChangeShapes Go.WideShapes Go.ChangeAt Go.RowKit
open PL Mem Srun Sst Ssim
open Smk
theorem Beg.far {w W : World} {lo : Nat} {vp tv0 sv0 tv sv dv : Value} {fuel : Int} {m : M} {c : Fr} (h : Beg w lo vp tv0 sv0 tv sv dv fuel m c W) (p : Addr) (u : Value) (h1 : tv.ownBlock ≠ some p.block) (h2 : sv.ownBlock ≠ some p.block) (h3 : dv.ownBlock ≠ some p.block) (hg : w.heap.size + 4 < p.block) : Beg w lo vp tv0 sv0 tv sv dv fuel m c (W.setCell p u) :=
 ⟨⟨h.st.e.far p u h1 h2 h3 (by omega), h.st.b0.far p u (by omega), h.st.b1.far p u (by omega), h.st.h0, h.st.h1⟩, h.b3.far p u (by omega), h.b4.far p u (by omega)⟩
theorem inner_world {w W w' : World} {lo : Nat} {vp tv0 sv0 tv sv dv tv' sv' div : Value} {fuel : Int} {m m' : M} {c i : Fr} (h : Beg w lo vp tv0 sv0 tv sv dv fuel m c W) (k : Lef W lo tv sv tv' sv' div m' i w') (h4 : w.heap.size + 1 + 1 + 1 + 1 < w'.heap.size) :
  (fun V => Beg w lo vp tv0 sv0 tv' sv' dv fuel m' c V ∧ Blk V w'.heap.size 154 (fcells i div))
  (((((((((((((((((((((((((w'.alloc (.cells fz 154)).setCell ⟨w.heap.size, 0, none⟩ vp).setCell ⟨w.heap.size, 1, none⟩ (.int .i64 fuel)).setCell ⟨w.heap.size, 2, none⟩ (.bool m'.spent)).setCell ⟨w.heap.size, 3, none⟩ (.int .i64 m'.shared)).setCell ⟨w.heap.size, 4, none⟩ (.int .i64 m'.made)).setCell ⟨w.heap.size, 5, none⟩ (.int .i64 m'.deep)).setCell ⟨w.heap.size, 6, none⟩ tv').setCell ⟨w.heap.size, 7, none⟩ sv').setCell ⟨w'.heap.size, 0, none⟩ (.int .i64 i.f)).setCell ⟨w'.heap.size, 1, none⟩ (.int .i64 i.depth)).setCell ⟨w'.heap.size, 2, none⟩ (.int .i64 i.r0)).setCell ⟨w'.heap.size, 3, none⟩ (.int .i64 i.r1)).setCell ⟨w'.heap.size, 4, none⟩ (.int .i64 i.r2)).setCell ⟨w'.heap.size, 5, none⟩ (.int .i64 i.r3)).setCell ⟨w'.heap.size, 6, none⟩ div).setCell ⟨w'.heap.size, 7, none⟩ (.int .i64 i.kind)).setCell ⟨w'.heap.size, 8, none⟩ (.int .i64 i.value)).setCell ⟨w'.heap.size, 9, none⟩ (.bool i.leaving)).setCell ⟨w'.heap.size, 10, none⟩ (.bool i.deferred)).setCell ⟨w'.heap.size, 11, none⟩ (.bool i.panicking)).setCell ⟨w'.heap.size, 12, none⟩ (.int .i64 i.panic)).setCell ⟨w'.heap.size, 13, none⟩ (.bool i.recovered)).setCell ⟨w'.heap.size, 14, none⟩ (.int .i64 i.outer))) := by
 have k2 := k.alloc (.cells fz 154)
 have b := h.whole0 k2
 have bn : Blk (w'.alloc (.cells fz 154)) w'.heap.size 154 fz := heap1_0 w' _
 have bn2 : Blk (((((((((w'.alloc (.cells fz 154)).setCell ⟨w.heap.size, 0, none⟩ vp).setCell ⟨w.heap.size, 1, none⟩ (.int .i64 fuel)).setCell ⟨w.heap.size, 2, none⟩ (.bool m'.spent)).setCell ⟨w.heap.size, 3, none⟩ (.int .i64 m'.shared)).setCell ⟨w.heap.size, 4, none⟩ (.int .i64 m'.made)).setCell ⟨w.heap.size, 5, none⟩ (.int .i64 m'.deep)).setCell ⟨w.heap.size, 6, none⟩ tv').setCell ⟨w.heap.size, 7, none⟩ sv') w'.heap.size 154 fz := by
  iterate 8 refine Blk.far ?_ _ _ (by show w'.heap.size ≠ w.heap.size; omega)
  exact bn
 have n1 := blk_apart b.st.e.tre bn2 (by decide)
 have n2 := blk_apart b.st.e.prs bn2 (by decide)
 have n3 := blk_apart b.st.e.dfs bn2 (by decide)
 constructor
 ·iterate 15 refine Beg.far ?_ _ _ n1 n2 n3 h4
  exact b
 ·exact Blk.set15 (a0 := .int .i64 0) (a1 := .int .i64 0) (a2 := .int .i64 0) (a3 := .int .i64 0) (a4 := .int .i64 0) (a5 := .int .i64 0) (a6 := .slice none 0 0) (a7 := .int .i64 0) (a8 := .int .i64 0) (a9 := .bool false) (a10 := .bool false) (a11 := .bool false) (a12 := .int .i64 0) (a13 := .bool false) (a14 := .int .i64 0) bn2 _ _ _ _ _ _ _ _ _ _ _ _ _ _ _
def RelI (w : World) (lo : Nat) (vp tv0 sv0 tv sv dv div : Value) (fuel : Int) (m : M) (c i : Fr) (H : Nat) (r : M × Fr × Int) (wx : World) : Prop :=
 ∃ c2 : Fr, r = (m, { c2 with leaving := c2.leaving || i.leaving }, -1) ∧ Beg w lo vp tv0 sv0 tv sv dv fuel m c2 wx ∧ Blk wx H 154 (fcells i div) ∧ c2.leaving = c.leaving
end Go.Proofs.Ythejnpignlhgiaa.Sinn0
