import Derived.Test.YthejnpignlhgiaaM3
import Derived.Test.YthejnpignlhgiaaM4
set_option linter.all false
namespace Go.Proofs.Ythejnpignlhgiaa.Sret
open Go.ChangeShapes Go.WideShapes Go.ChangeAt Go.RowKit
open PL Mem Srun Sst
theorem outsA {w W : World} {lo g3 g4 : Nat} {vp tv0 sv0 tv sv dv : Value} {fuel : Int} {m : M} {c : Fr} {t4 : TypeId} {cs4 : Array Value} (h : Lef w lo tv0 sv0 tv sv dv m c W) (b3 : Blk W g3 151 (mz)) (b4 : Blk W g4 t4 cs4) (h3 : w.heap.size ≤ g3) (hne : g3 ≠ g4) :
  Lef w lo tv0 sv0 tv sv dv m c (((((((((W).setCell ⟨g3, 0, none⟩ vp).setCell ⟨g3, 1, none⟩ (.int .i64 fuel)).setCell ⟨g3, 2, none⟩ (.bool m.spent)).setCell ⟨g3, 3, none⟩ (.int .i64 m.shared)).setCell ⟨g3, 4, none⟩ (.int .i64 m.made)).setCell ⟨g3, 5, none⟩ (.int .i64 m.deep)).setCell ⟨g3, 6, none⟩ tv).setCell ⟨g3, 7, none⟩ sv) ∧ Blk (((((((((W).setCell ⟨g3, 0, none⟩ vp).setCell ⟨g3, 1, none⟩ (.int .i64 fuel)).setCell ⟨g3, 2, none⟩ (.bool m.spent)).setCell ⟨g3, 3, none⟩ (.int .i64 m.shared)).setCell ⟨g3, 4, none⟩ (.int .i64 m.made)).setCell ⟨g3, 5, none⟩ (.int .i64 m.deep)).setCell ⟨g3, 6, none⟩ tv).setCell ⟨g3, 7, none⟩ sv) g3 151 (mcells vp fuel m tv sv) ∧ Blk (((((((((W).setCell ⟨g3, 0, none⟩ vp).setCell ⟨g3, 1, none⟩ (.int .i64 fuel)).setCell ⟨g3, 2, none⟩ (.bool m.spent)).setCell ⟨g3, 3, none⟩ (.int .i64 m.shared)).setCell ⟨g3, 4, none⟩ (.int .i64 m.made)).setCell ⟨g3, 5, none⟩ (.int .i64 m.deep)).setCell ⟨g3, 6, none⟩ tv).setCell ⟨g3, 7, none⟩ sv) g4 t4 cs4 := by
 have n3t := blk_apart h.tre b3 (by decide)
 have n3s := blk_apart h.prs b3 (by decide)
 have n3d := blk_apart h.dfs b3 (by decide)
 refine ⟨?_, ?_, ?_⟩
 ·iterate 8 refine Lef.far ?_ _ _ n3t n3s n3d h3
  exact h
 ·exact Blk.set8 (a0 := .slice none 0 0) (a1 := .int .i64 0) (a2 := .bool false) (a3 := .int .i64 0) (a4 := .int .i64 0) (a5 := .int .i64 0) (a6 := .slice none 0 0) (a7 := .slice none 0 0) b3 _ _ _ _ _ _ _ _
 ·iterate 8 refine Blk.far ?_ _ _ hne.symm
  exact b4
theorem outsB {w W : World} {lo g3 g4 : Nat} {vp tv0 sv0 tv sv dv : Value} {fuel : Int} {m : M} {c : Fr} {t3 : TypeId} {cs3 : Array Value} (h : Lef w lo tv0 sv0 tv sv dv m c W) (b3 : Blk W g3 t3 cs3) (b4 : Blk W g4 154 (fz)) (h4 : w.heap.size ≤ g4) (hne : g3 ≠ g4) :
  Lef w lo tv0 sv0 tv sv dv m c ((((((((((((((((W).setCell ⟨g4, 0, none⟩ (.int .i64 c.f)).setCell ⟨g4, 1, none⟩ (.int .i64 c.depth)).setCell ⟨g4, 2, none⟩ (.int .i64 c.r0)).setCell ⟨g4, 3, none⟩ (.int .i64 c.r1)).setCell ⟨g4, 4, none⟩ (.int .i64 c.r2)).setCell ⟨g4, 5, none⟩ (.int .i64 c.r3)).setCell ⟨g4, 6, none⟩ dv).setCell ⟨g4, 7, none⟩ (.int .i64 c.kind)).setCell ⟨g4, 8, none⟩ (.int .i64 c.value)).setCell ⟨g4, 9, none⟩ (.bool c.leaving)).setCell ⟨g4, 10, none⟩ (.bool c.deferred)).setCell ⟨g4, 11, none⟩ (.bool c.panicking)).setCell ⟨g4, 12, none⟩ (.int .i64 c.panic)).setCell ⟨g4, 13, none⟩ (.bool c.recovered)).setCell ⟨g4, 14, none⟩ (.int .i64 c.outer)) ∧ Blk ((((((((((((((((W).setCell ⟨g4, 0, none⟩ (.int .i64 c.f)).setCell ⟨g4, 1, none⟩ (.int .i64 c.depth)).setCell ⟨g4, 2, none⟩ (.int .i64 c.r0)).setCell ⟨g4, 3, none⟩ (.int .i64 c.r1)).setCell ⟨g4, 4, none⟩ (.int .i64 c.r2)).setCell ⟨g4, 5, none⟩ (.int .i64 c.r3)).setCell ⟨g4, 6, none⟩ dv).setCell ⟨g4, 7, none⟩ (.int .i64 c.kind)).setCell ⟨g4, 8, none⟩ (.int .i64 c.value)).setCell ⟨g4, 9, none⟩ (.bool c.leaving)).setCell ⟨g4, 10, none⟩ (.bool c.deferred)).setCell ⟨g4, 11, none⟩ (.bool c.panicking)).setCell ⟨g4, 12, none⟩ (.int .i64 c.panic)).setCell ⟨g4, 13, none⟩ (.bool c.recovered)).setCell ⟨g4, 14, none⟩ (.int .i64 c.outer)) g3 t3 cs3 ∧ Blk ((((((((((((((((W).setCell ⟨g4, 0, none⟩ (.int .i64 c.f)).setCell ⟨g4, 1, none⟩ (.int .i64 c.depth)).setCell ⟨g4, 2, none⟩ (.int .i64 c.r0)).setCell ⟨g4, 3, none⟩ (.int .i64 c.r1)).setCell ⟨g4, 4, none⟩ (.int .i64 c.r2)).setCell ⟨g4, 5, none⟩ (.int .i64 c.r3)).setCell ⟨g4, 6, none⟩ dv).setCell ⟨g4, 7, none⟩ (.int .i64 c.kind)).setCell ⟨g4, 8, none⟩ (.int .i64 c.value)).setCell ⟨g4, 9, none⟩ (.bool c.leaving)).setCell ⟨g4, 10, none⟩ (.bool c.deferred)).setCell ⟨g4, 11, none⟩ (.bool c.panicking)).setCell ⟨g4, 12, none⟩ (.int .i64 c.panic)).setCell ⟨g4, 13, none⟩ (.bool c.recovered)).setCell ⟨g4, 14, none⟩ (.int .i64 c.outer)) g4 154 (fcells c dv) := by
 have n4t := blk_apart h.tre b4 (by decide)
 have n4s := blk_apart h.prs b4 (by decide)
 have n4d := blk_apart h.dfs b4 (by decide)
 refine ⟨?_, ?_, ?_⟩
 ·iterate 15 refine Lef.far ?_ _ _ n4t n4s n4d h4
  exact h
 ·iterate 15 refine Blk.far ?_ _ _ hne
  exact b3
 ·exact Blk.set15 (a0 := .int .i64 0) (a1 := .int .i64 0) (a2 := .int .i64 0) (a3 := .int .i64 0) (a4 := .int .i64 0) (a5 := .int .i64 0) (a6 := .slice none 0 0) (a7 := .int .i64 0) (a8 := .int .i64 0) (a9 := .bool false) (a10 := .bool false) (a11 := .bool false) (a12 := .int .i64 0) (a13 := .bool false) (a14 := .int .i64 0) b4 _ _ _ _ _ _ _ _ _ _ _ _ _ _ _
theorem outsA2 {w W : World} {lo g3 g4 : Nat} {vp tv0 sv0 tv sv dv : Value} {fuel : Int} {m : M} {c : Fr} {vp0 tv1 sv1 : Value} {fuel0 : Int} {m0 : M} {t4 : TypeId} {cs4 : Array Value} (h : Lef w lo tv0 sv0 tv sv dv m c W) (b3 : Blk W g3 151 (mcells vp0 fuel0 m0 tv1 sv1)) (b4 : Blk W g4 t4 cs4) (h3 : w.heap.size ≤ g3) (hne : g3 ≠ g4) :
  Lef w lo tv0 sv0 tv sv dv m c (((((((((W).setCell ⟨g3, 0, none⟩ vp).setCell ⟨g3, 1, none⟩ (.int .i64 fuel)).setCell ⟨g3, 2, none⟩ (.bool m.spent)).setCell ⟨g3, 3, none⟩ (.int .i64 m.shared)).setCell ⟨g3, 4, none⟩ (.int .i64 m.made)).setCell ⟨g3, 5, none⟩ (.int .i64 m.deep)).setCell ⟨g3, 6, none⟩ tv).setCell ⟨g3, 7, none⟩ sv) ∧ Blk (((((((((W).setCell ⟨g3, 0, none⟩ vp).setCell ⟨g3, 1, none⟩ (.int .i64 fuel)).setCell ⟨g3, 2, none⟩ (.bool m.spent)).setCell ⟨g3, 3, none⟩ (.int .i64 m.shared)).setCell ⟨g3, 4, none⟩ (.int .i64 m.made)).setCell ⟨g3, 5, none⟩ (.int .i64 m.deep)).setCell ⟨g3, 6, none⟩ tv).setCell ⟨g3, 7, none⟩ sv) g3 151 (mcells vp fuel m tv sv) ∧ Blk (((((((((W).setCell ⟨g3, 0, none⟩ vp).setCell ⟨g3, 1, none⟩ (.int .i64 fuel)).setCell ⟨g3, 2, none⟩ (.bool m.spent)).setCell ⟨g3, 3, none⟩ (.int .i64 m.shared)).setCell ⟨g3, 4, none⟩ (.int .i64 m.made)).setCell ⟨g3, 5, none⟩ (.int .i64 m.deep)).setCell ⟨g3, 6, none⟩ tv).setCell ⟨g3, 7, none⟩ sv) g4 t4 cs4 := by
 have n3t := blk_apart h.tre b3 (by decide)
 have n3s := blk_apart h.prs b3 (by decide)
 have n3d := blk_apart h.dfs b3 (by decide)
 refine ⟨?_, ?_, ?_⟩
 ·iterate 8 refine Lef.far ?_ _ _ n3t n3s n3d h3
  exact h
 ·exact Blk.set8 (a0 := vp0) (a1 := .int .i64 fuel0) (a2 := .bool m0.spent) (a3 := .int .i64 m0.shared) (a4 := .int .i64 m0.made) (a5 := .int .i64 m0.deep) (a6 := tv1) (a7 := sv1) b3 _ _ _ _ _ _ _ _
 ·iterate 8 refine Blk.far ?_ _ _ hne.symm
  exact b4
theorem outsB2 {w W : World} {lo g3 g4 : Nat} {vp tv0 sv0 tv sv dv : Value} {fuel : Int} {m : M} {c : Fr} {c0 : Fr} {dv1 : Value} {t3 : TypeId} {cs3 : Array Value} (h : Lef w lo tv0 sv0 tv sv dv m c W) (b3 : Blk W g3 t3 cs3) (b4 : Blk W g4 154 (fcells c0 dv1)) (h4 : w.heap.size ≤ g4) (hne : g3 ≠ g4) :
  Lef w lo tv0 sv0 tv sv dv m c ((((((((((((((((W).setCell ⟨g4, 0, none⟩ (.int .i64 c.f)).setCell ⟨g4, 1, none⟩ (.int .i64 c.depth)).setCell ⟨g4, 2, none⟩ (.int .i64 c.r0)).setCell ⟨g4, 3, none⟩ (.int .i64 c.r1)).setCell ⟨g4, 4, none⟩ (.int .i64 c.r2)).setCell ⟨g4, 5, none⟩ (.int .i64 c.r3)).setCell ⟨g4, 6, none⟩ dv).setCell ⟨g4, 7, none⟩ (.int .i64 c.kind)).setCell ⟨g4, 8, none⟩ (.int .i64 c.value)).setCell ⟨g4, 9, none⟩ (.bool c.leaving)).setCell ⟨g4, 10, none⟩ (.bool c.deferred)).setCell ⟨g4, 11, none⟩ (.bool c.panicking)).setCell ⟨g4, 12, none⟩ (.int .i64 c.panic)).setCell ⟨g4, 13, none⟩ (.bool c.recovered)).setCell ⟨g4, 14, none⟩ (.int .i64 c.outer)) ∧ Blk ((((((((((((((((W).setCell ⟨g4, 0, none⟩ (.int .i64 c.f)).setCell ⟨g4, 1, none⟩ (.int .i64 c.depth)).setCell ⟨g4, 2, none⟩ (.int .i64 c.r0)).setCell ⟨g4, 3, none⟩ (.int .i64 c.r1)).setCell ⟨g4, 4, none⟩ (.int .i64 c.r2)).setCell ⟨g4, 5, none⟩ (.int .i64 c.r3)).setCell ⟨g4, 6, none⟩ dv).setCell ⟨g4, 7, none⟩ (.int .i64 c.kind)).setCell ⟨g4, 8, none⟩ (.int .i64 c.value)).setCell ⟨g4, 9, none⟩ (.bool c.leaving)).setCell ⟨g4, 10, none⟩ (.bool c.deferred)).setCell ⟨g4, 11, none⟩ (.bool c.panicking)).setCell ⟨g4, 12, none⟩ (.int .i64 c.panic)).setCell ⟨g4, 13, none⟩ (.bool c.recovered)).setCell ⟨g4, 14, none⟩ (.int .i64 c.outer)) g3 t3 cs3 ∧ Blk ((((((((((((((((W).setCell ⟨g4, 0, none⟩ (.int .i64 c.f)).setCell ⟨g4, 1, none⟩ (.int .i64 c.depth)).setCell ⟨g4, 2, none⟩ (.int .i64 c.r0)).setCell ⟨g4, 3, none⟩ (.int .i64 c.r1)).setCell ⟨g4, 4, none⟩ (.int .i64 c.r2)).setCell ⟨g4, 5, none⟩ (.int .i64 c.r3)).setCell ⟨g4, 6, none⟩ dv).setCell ⟨g4, 7, none⟩ (.int .i64 c.kind)).setCell ⟨g4, 8, none⟩ (.int .i64 c.value)).setCell ⟨g4, 9, none⟩ (.bool c.leaving)).setCell ⟨g4, 10, none⟩ (.bool c.deferred)).setCell ⟨g4, 11, none⟩ (.bool c.panicking)).setCell ⟨g4, 12, none⟩ (.int .i64 c.panic)).setCell ⟨g4, 13, none⟩ (.bool c.recovered)).setCell ⟨g4, 14, none⟩ (.int .i64 c.outer)) g4 154 (fcells c dv) := by
 have n4t := blk_apart h.tre b4 (by decide)
 have n4s := blk_apart h.prs b4 (by decide)
 have n4d := blk_apart h.dfs b4 (by decide)
 refine ⟨?_, ?_, ?_⟩
 ·iterate 15 refine Lef.far ?_ _ _ n4t n4s n4d h4
  exact h
 ·iterate 15 refine Blk.far ?_ _ _ hne
  exact b3
 ·exact Blk.set15 (a0 := .int .i64 c0.f) (a1 := .int .i64 c0.depth) (a2 := .int .i64 c0.r0) (a3 := .int .i64 c0.r1) (a4 := .int .i64 c0.r2) (a5 := .int .i64 c0.r3) (a6 := dv1) (a7 := .int .i64 c0.kind) (a8 := .int .i64 c0.value) (a9 := .bool c0.leaving) (a10 := .bool c0.deferred) (a11 := .bool c0.panicking) (a12 := .int .i64 c0.panic) (a13 := .bool c0.recovered) (a14 := .int .i64 c0.outer) b4 _ _ _ _ _ _ _ _ _ _ _ _ _ _ _
end Go.Proofs.Ythejnpignlhgiaa.Sret

namespace Go.Proofs.Ythejnpignlhgiaa.Slast0
open Go.ChangeShapes Go.WideShapes Go.ChangeAt Go.RowKit
open PL Mem Srun Sst Ssim Smk
structure MidL (w : World) (lo : Nat) (vp tv0 sv0 tv sv dv dvo : Value) (fuel : Int) (m : M) (c co : Fr) (V : World) : Prop where
 e : Lef w lo tv0 sv0 tv sv dv m c V
 b0 : Blk V w.heap.size 151 (mcells vp fuel m tv sv)
 b1 : Blk V (w.heap.size + 1) 154 (fcells co dvo)
 b2 : Blk V (w.heap.size + 1 + 1) 151 mz
 b3 : Blk V (w.heap.size + 1 + 1 + 1) 154 fz
section
variable {w W W' V : World} {lo : Nat} {vp tv0 sv0 tv sv dv tv' sv' dv' : Value} {fuel : Int} {m m' : M} {c c' : Fr}
theorem MidL.drew (h : MidL w lo vp tv0 sv0 tv sv dv dv' fuel m c c' V) : MidL w lo vp tv0 sv0 tv sv dv dv' fuel m c c' V.drew := ⟨h.e.drew, h.b0, h.b1, h.b2, h.b3⟩
theorem midA (h : BegL w lo vp tv0 sv0 tv sv dv fuel m c W) (k : Lef W lo tv sv tv' sv' dv' m' c' W') : MidL w lo vp tv0 sv0 tv' sv' dv' dv fuel m' c' c (((((((((W').setCell ⟨w.heap.size, 0, none⟩ vp).setCell ⟨w.heap.size, 1, none⟩ (.int .i64 fuel)).setCell ⟨w.heap.size, 2, none⟩ (.bool m'.spent)).setCell ⟨w.heap.size, 3, none⟩ (.int .i64 m'.shared)).setCell ⟨w.heap.size, 4, none⟩ (.int .i64 m'.made)).setCell ⟨w.heap.size, 5, none⟩ (.int .i64 m'.deep)).setCell ⟨w.heap.size, 6, none⟩ tv').setCell ⟨w.heap.size, 7, none⟩ sv') := by
 have k0 := k.blk h.st.e.tre h.st.e.prs h.st.b0 (by decide) (by decide)
 have k1 := k.blk h.st.e.tre h.st.e.prs h.st.b1 (by decide) (by decide)
 have k2 := k.blk h.st.e.tre h.st.e.prs h.b2 (by decide) (by decide)
 have k3 := k.blk h.st.e.tre h.st.e.prs h.b3 (by decide) (by decide)
 have e := h.st.e.trans k
 have o := Sret.outsA2 (vp := vp) (fuel := fuel) e k0 k1 (Nat.le_refl _) (by omega)
 refine ⟨o.1, o.2.1, o.2.2, ?_, ?_⟩
 ·iterate 8 refine Blk.far ?_ _ _ (by show w.heap.size + 1 + 1 ≠ w.heap.size; omega)
  exact k2
 ·iterate 8 refine Blk.far ?_ _ _ (by show w.heap.size + 1 + 1 + 1 ≠ w.heap.size; omega)
  exact k3
theorem midB (h : MidL w lo vp tv0 sv0 tv' sv' dv' dv fuel m' c' c V) : BegL w lo vp tv0 sv0 tv' sv' dv' fuel m' c' ((((((((((((((((V).setCell ⟨w.heap.size + 1, 0, none⟩ (.int .i64 c'.f)).setCell ⟨w.heap.size + 1, 1, none⟩ (.int .i64 c'.depth)).setCell ⟨w.heap.size + 1, 2, none⟩ (.int .i64 c'.r0)).setCell ⟨w.heap.size + 1, 3, none⟩ (.int .i64 c'.r1)).setCell ⟨w.heap.size + 1, 4, none⟩ (.int .i64 c'.r2)).setCell ⟨w.heap.size + 1, 5, none⟩ (.int .i64 c'.r3)).setCell ⟨w.heap.size + 1, 6, none⟩ dv').setCell ⟨w.heap.size + 1, 7, none⟩ (.int .i64 c'.kind)).setCell ⟨w.heap.size + 1, 8, none⟩ (.int .i64 c'.value)).setCell ⟨w.heap.size + 1, 9, none⟩ (.bool c'.leaving)).setCell ⟨w.heap.size + 1, 10, none⟩ (.bool c'.deferred)).setCell ⟨w.heap.size + 1, 11, none⟩ (.bool c'.panicking)).setCell ⟨w.heap.size + 1, 12, none⟩ (.int .i64 c'.panic)).setCell ⟨w.heap.size + 1, 13, none⟩ (.bool c'.recovered)).setCell ⟨w.heap.size + 1, 14, none⟩ (.int .i64 c'.outer)) := by
 have o := Sret.outsB2 (vp := vp) (fuel := fuel) h.e h.b0 h.b1 (Nat.le_succ _) (by omega)
 refine ⟨⟨o.1, o.2.1, o.2.2, Nat.le_refl _, Nat.le_succ _⟩, ?_, ?_⟩
 ·iterate 15 refine Blk.far ?_ _ _ (by show w.heap.size + 1 + 1 ≠ w.heap.size + 1; omega)
  exact h.b2
 ·iterate 15 refine Blk.far ?_ _ _ (by show w.heap.size + 1 + 1 + 1 ≠ w.heap.size + 1; omega)
  exact h.b3
end
end Go.Proofs.Ythejnpignlhgiaa.Slast0
