import Derived.Test.YtdmcgkcpclepfaaSrun
set_option linter.all false
namespace Go.Proofs.Ytdmcgkcpclepfaa.Sst
open Go.ChangeShapes Go.WideShapes Go.ChangeAt Go.RowKit
open PL Mem Srun
def mcells (vp : Value) (fuel : Int) (m : M) (tv sv : Value) : Array Value :=
 #[vp, .int .i64 fuel, .bool m.spent, .int .i64 m.shared, .int .i64 m.made, .int .i64 m.deep, tv, sv]
def fcells (c : Fr) (dv : Value) : Array Value :=
 #[.int .i64 c.f, .int .i64 c.depth, .int .i64 c.r0, .int .i64 c.r1, .int .i64 c.r2, .int .i64 c.r3, dv, .int .i64 c.kind, .int .i64 c.value, .bool c.leaving, .bool c.deferred, .bool c.panicking, .int .i64 c.panic, .bool c.recovered, .int .i64 c.outer]
def mz : Array Value := #[.slice none 0 0, .int .i64 0, .bool false, .int .i64 0, .int .i64 0, .int .i64 0, .slice none 0 0, .slice none 0 0]
def fz : Array Value := #[.int .i64 0, .int .i64 0, .int .i64 0, .int .i64 0, .int .i64 0, .int .i64 0, .slice none 0 0, .int .i64 0, .int .i64 0, .bool false, .bool false, .bool false, .int .i64 0, .bool false, .int .i64 0]
theorem fcells_reg (c : Fr) (dv : Value) (a : Int) (h0 : 0 ≤ a) (h3 : a < 4) : (fcells c dv)[2 + a.toNat]? = some (.int .i64 (reg c a)) := by
 have h4 : a = 0 ∨ a = 1 ∨ a = 2 ∨ a = 3 := by omega
 rcases h4 with rfl | rfl | rfl | rfl <;> rfl
theorem fcells_set (c : Fr) (dv : Value) (a v : Int) (h0 : 0 ≤ a) (h3 : a < 4) : (fcells c dv).setIfInBounds (2 + a.toNat) (.int .i64 v) = fcells (setReg c a v) dv := by
 have h4 : a = 0 ∨ a = 1 ∨ a = 2 ∨ a = 3 := by omega
 rcases h4 with rfl | rfl | rfl | rfl <;> simp [fcells, setReg]
theorem gen_world {X G : World → Prop} {W : World} (hx : X W) (h : ∀ W, X W → G W) : G W := h W hx
theorem blk_apart {w : World} {lo sz n e g t : Nat} {v : Value} {l : List Value} {cs : Array Value} (h : w.ownsRow lo e sz v n l) (hb : Blk w g t cs) (hne : e ≠ t) : v.ownBlock ≠ some g := by
 intro hk
 rcases h.2 with ⟨rfl, _⟩ | ⟨g', cap, cur, rfl, _, hg, _⟩
 ·simp [Value.ownBlock] at hk
 ·simp [Value.ownBlock] at hk
  subst hk
  unfold Blk at hb
  rw [hg] at hb
  injection hb with hb
  injection hb with _ ht
  exact hne ht
theorem blk_drew {w : World} {g t : Nat} {cs : Array Value} (h : Blk w g t cs) : Blk w.drew g t cs := h
section
variable {w W W' : World} {lo : Nat} {tv0 sv0 tv sv dv tv' sv' dv' : Value} {m m' : M} {c c' : Fr}
end
section
variable {w W W' : World} {lo g0 g1 : Nat} {vp tv0 sv0 tv sv dv tv' sv' : Value} {fuel : Int} {m m' : M} {c c' : Fr}
end
theorem Blk.set15 {w : World} {g : Nat} {t : TypeId} {a0 a1 a2 a3 a4 a5 a6 a7 a8 a9 a10 a11 a12 a13 a14 : Value} (h : Blk w g t #[a0, a1, a2, a3, a4, a5, a6, a7, a8, a9, a10, a11, a12, a13, a14]) (u0 u1 u2 u3 u4 u5 u6 u7 u8 u9 u10 u11 u12 u13 u14 : Value) :
  Blk (((((((((((((((w.setCell ⟨g, 0, none⟩ u0).setCell ⟨g, 1, none⟩ u1).setCell ⟨g, 2, none⟩ u2).setCell ⟨g, 3, none⟩ u3).setCell ⟨g, 4, none⟩ u4).setCell ⟨g, 5, none⟩ u5).setCell ⟨g, 6, none⟩ u6).setCell ⟨g, 7, none⟩ u7).setCell ⟨g, 8, none⟩ u8).setCell ⟨g, 9, none⟩ u9).setCell ⟨g, 10, none⟩ u10).setCell ⟨g, 11, none⟩ u11).setCell ⟨g, 12, none⟩ u12).setCell ⟨g, 13, none⟩ u13).setCell ⟨g, 14, none⟩ u14) g t #[u0, u1, u2, u3, u4, u5, u6, u7, u8, u9, u10, u11, u12, u13, u14] := by
 have := ((((((((((((((h.put 0 u0).put 1 u1).put 2 u2).put 3 u3).put 4 u4).put 5 u5).put 6 u6).put 7 u7).put 8 u8).put 9 u9).put 10 u10).put 11 u11).put 12 u12).put 13 u13).put 14 u14
 simpa only [List.setIfInBounds_toArray, List.set_cons_zero, List.set_cons_succ] using this
end Go.Proofs.Ytdmcgkcpclepfaa.Sst
-- squeezed
