import Derived.Test.YthejnpignlhgiaaSlastT
import Derived.Test.YthejnpignlhgiaaSlastF
import Derived.Test.YthejnpignlhgiaaM6
import Derived.Test.YthejnpignlhgiaaSmk5
import Derived.Test.YthejnpignlhgiaaM29
import Derived.Test.YthejnpignlhgiaaM7
import Derived.Test.YthejnpignlhgiaaSmko
import Derived.Test.YthejnpignlhgiaaScall0
set_option linter.all false
namespace Go.Proofs.Ythejnpignlhgiaa.Slast
open PL Mem Srun Sst Ssim Smk Slast0 Slast1
theorem last_any (lo : Nat) (tv sv dv : Value) (fuel : Int) (m : M) (c : Fr) (K : Int) (inner : PL.Call) (p : Pg) (Ap : Option Addr) (np cp : Nat) (D N : Int) (ds : List (Int × Int)) (d : Int × Int) (hm : WfM fuel K m) (hK : K ≤ 9000) (hc : WfF N c) (w : World) (he : Lef w lo tv sv tv sv dv m c w) (hlo : lo ≤ w.heap.size) (hrd : RdP w lo Ap p) (hns0 : m.spent = false) (hok : CallOkN lo Ap np cp p fuel N (D + 1) inner) (hD : c.depth = D) (hD0 : 1 ≤ D ∧ D ≤ 8) (hds : c.defers = ds ++ [d]) (hdl : c.defers.length ≤ 100000) :
  Calls Try.prog 126 #[mval (.slice Ap np cp) fuel m tv sv, fval c dv] w fun e w' => Ret w lo (.slice Ap np cp) tv sv fuel (lastRes inner m c ds d).1 (lastRes inner m c ds d).2 e w' := by
 rcases Bool.eq_false_or_eq_true (inner m (lastFrame c d)).1.spent with h | h
 ·exact SlastT.last_t lo tv sv dv fuel m c K inner p Ap np cp D N ds d hm hK hc w he hlo hrd hns0 hok hD hD0 hds hdl h
 ·exact SlastF.last_f lo tv sv dv fuel m c K inner p Ap np cp D N ds d hm hK hc w he hlo hrd hns0 hok hD hD0 hds hdl h
end Go.Proofs.Ythejnpignlhgiaa.Slast

namespace Go.Proofs.Ythejnpignlhgiaa.SmkA
open PL Mem Srun Sst Ssim Smk
theorem make_any (lo : Nat) (tv sv dv : Value) (fuel : Int) (m : M) (c : Fr) (pl : Int) (s : Tr) (K : Int) (inner : PL.Call) (p : Pg) (Ap : Option Addr) (np cp : Nat) (D : Int) (n : Nat) (hm : WfM fuel K m) (hK : K ≤ 9000) (hc : WfF n c) (hp : 0 ≤ pl ∧ pl ≤ 8) (w : World) (he : Lef w lo tv sv tv sv dv m c w) (hlo : lo ≤ w.heap.size) (hrd : RdP w lo Ap p) (hsp0 : m.spent = false) (hok : CallOkN lo Ap np cp p fuel n (D + 1) inner) (hD : c.depth = D) (hD0 : 1 ≤ D ∧ D ≤ 8) (hdn : c.defers.length ≤ 100000) (hs : okStep n s = true) :
  Calls Try.prog 125 #[mval (.slice Ap np cp) fuel m tv sv, fval c dv, .int .i64 pl, .agg #[.int .i64 s.1, .int .i64 s.2.1, .int .i64 s.2.2]] w fun e w' => Ret3 w lo (.slice Ap np cp) tv sv fuel (mk inner m c pl s) e w' := by
 obtain ⟨k, a, b⟩ := s
 have hK' : K ≤ 10000 := by omega
 have hv : ∃ A n c, (Value.slice Ap np cp) = .slice A n c := ⟨_, _, _, rfl⟩
 unfold okStep at hs
 dsimp only at hs ⊢
 by_cases h4 : k = 4
 ·subst h4
  simp [isReg] at hs
  exact Smk4.make_4 lo tv sv dv fuel m c pl a b K inner p Ap np cp D n hm hK hc hp w he hlo hrd hsp0 hok hD hD0 ⟨by omega, by omega⟩ ⟨by omega, by omega⟩
 by_cases h5 : k = 5
 ·subst h5
  simp [isReg] at hs
  exact Smk5.make_5 lo _ tv sv dv fuel m c pl a b n K inner hm hK' hc hp w he hlo hv ⟨by omega, by omega⟩ hdn
 by_cases h6 : k = 6
 ·subst h6
  simp [isReg] at hs
  exact Smk6.make_6 lo _ tv sv dv fuel m c pl a b n K inner hm hK' hc hp w he hlo hv ⟨by omega, by omega⟩
 by_cases h8 : k = 8
 ·subst h8
  simp [isReg] at hs
  exact Smk8.make_8 lo _ tv sv dv fuel m c pl a b n K inner hm hK' hc hp w he hlo hv ⟨by omega, by omega⟩
 by_cases h10 : k = 10
 ·subst h10
  exact Smk10.make_10 lo _ tv sv dv fuel m c pl a b n K inner hm hK' hc hp w he hlo hv
 by_cases h11 : k = 11
 ·subst h11
  simp [isReg] at hs
  exact Smk11.make_11 lo _ tv sv dv fuel m c pl a b n K inner hm hK' hc hp w he hlo hv ⟨by omega, by omega⟩ ⟨by omega, by omega⟩
 have hk : k = 1 ∨ k = 2 ∨ k = 3 ∨ k = 7 ∨ k = 9 ∨ k = 12 ∨ k = 13 := by
  by_cases h1 : k = 1
  ·omega
  by_cases h2 : k = 2
  ·omega
  simp only [h1, h2, h4, h5, h6, h8, h10, h11, or_self, false_or, if_false] at hs
  split at hs
  ·omega
  ·cases hs
 have ha : 0 ≤ a ∧ a ≤ 3 := by
  rcases hk with rfl | rfl | rfl | rfl | rfl | rfl | rfl <;> simp [isReg] at hs <;> omega
 exact Smko.make_o lo _ tv sv dv fuel m c pl a b n K inner hm hK' hc hp w he hlo hv k hk ha (by rintro rfl; simp [isReg] at hs; omega)
end Go.Proofs.Ythejnpignlhgiaa.SmkA

namespace Go.Proofs.Ythejnpignlhgiaa.Scall1
open Go.ChangeShapes Go.WideShapes Go.ChangeAt Go.RowKit
open PL Mem Srun Sst Ssim
open Smk Slast0 Slast1
section
variable {inner : PL.Call} {b : List Tr} {fuel a : Int} {k : Nat} {m : M} {c : Fr} {s : Tr}
theorem body_out (h : a < 0 ∨ (b.length : Int) ≤ a) : body inner b fuel (k + 1) m c a = (m, c) := by
 unfold body
 by_cases h0 : 0 ≤ a
 ·rw [if_pos h0, List.getElem?_eq_none (by omega)]
 ·rw [if_neg h0]
theorem body_full (h0 : 0 ≤ a) (hs : b[a.toNat]? = some s) (he : m.made = fuel) : body inner b fuel (k + 1) m c a = ({ m with spent := true }, c) := by
 unfold body
 rw [if_pos h0, hs]
 simp only [if_pos he]
theorem body_go (h0 : 0 ≤ a) (hs : b[a.toNat]? = some s) (he : m.made ≠ fuel) : body inner b fuel (k + 1) m c a =
  if (mk inner (count m c.f a) c a s).1.spent then ((mk inner (count m c.f a) c a s).1, (mk inner (count m c.f a) c a s).2.1) else body inner b fuel k (mk inner (count m c.f a) c a s).1 (mk inner (count m c.f a) c a s).2.1 (mk inner (count m c.f a) c a s).2.2 := by
 rw [body, if_pos h0, hs]
 simp only [if_neg he]
theorem dfr_nil (h : c.defers = []) : dfr inner k m c = (m, c) := by
 cases k with
 | zero => rfl
 | succ k => rw [dfr, h]; rfl
theorem dfr_one {ds : List (Int × Int)} {d : Int × Int} (h : c.defers = ds ++ [d]) : dfr inner (k + 1) m c =
  if (lastRes inner m c ds d).1.spent then lastRes inner m c ds d else dfr inner k (lastRes inner m c ds d).1 (lastRes inner m c ds d).2 := by
 have hl : c.defers.getLast? = some d := by rw [h]; simp
 have hd : dropL c = { c with defers := ds } := by unfold dropL; rw [h]; simp
 rw [dfr, hl]
 simp only [hd]
 unfold lastRes
 cases hsp : (inner m (lastFrame c d)).1.spent <;> simp [hsp]
end
theorem BegL.seen {w W w2 : World} {lo : Nat} {vp tv0 sv0 tv sv dv v2 : Value} {fuel : Int} {m : M} {c : Fr} {x : Int × Int} (h : BegL w lo vp tv0 sv0 tv sv dv fuel m c W) (h0 : ∀ y, sv.ownBlock = some y → sv0.ownBlock = some y ∨ w.heap.size ≤ y)
  {W' : World} (hb : App.Bl W W') (g : W'.grownBy w2 sv.ownBlock) (o : Prs w2 lo v2 (m.seen ++ [x])) (t : v2.ownBlock = sv.ownBlock ∨ v2.ownBlock = some W'.heap.size) (hlo : lo ≤ w.heap.size) :
  BegL w lo vp tv0 sv0 tv v2 dv fuel { m with seen := m.seen ++ [x] } c (w2.setCell ⟨w.heap.size, 7, none⟩ v2) := by
 have hs := h.st.e.chg.size
 have c1 : Chg (fun y => sv.ownBlock = some y) W' w2 := (Chg.of_grown g).mono (fun _ _ hy => Eq.symm hy)
 have cc : Chg (fun y => sv.ownBlock = some y) W w2 := (Chg.of_below (C := fun y => sv.ownBlock = some y) hb).trans c1 (fun _ _ hd => hd)
 have n0 : ∀ {gb t : Nat} {cs : Array Value}, Blk W gb t cs → 177 ≠ t → ¬ sv.ownBlock = some gb := fun hB hne e => blk_apart h.st.e.prs hB hne e
 have b0 := h.st.b0.chg cc (n0 h.st.b0 (by decide))
 have b1 := h.st.b1.chg cc (n0 h.st.b1 (by decide))
 have b2 := h.b2.chg cc (n0 h.b2 (by decide))
 have b3 := h.b3.chg cc (n0 h.b3 (by decide))
 have e : Lef w lo tv0 sv0 tv v2 dv { m with seen := m.seen ++ [x] } c w2 :=
  ⟨Tre.chg h.st.e.tre cc (fun y hy hy' => apart h.st.e.tre h.st.e.prs (by decide) y hy hy'), o, Prs.chg h.st.e.dfs cc (fun y hy hy' => h.st.e.fd y hy hy'), h.st.e.chg.trans cc (fun y hy hd => by
   rcases h0 y hd with e | e
   ·exact .inr e
   ·omega), h.st.e.ft, fun y hy => by
   rcases t with e | e
   ·rw [e] at hy; exact h.st.e.fs y hy
   ·rw [e] at hy
    obtain rfl : W'.heap.size = y := by simpa using hy
    exact .inr (Nat.le_trans hs hb.size), fun y hy hy' => by
   rcases t with e | e
   ·rw [e] at hy'; exact h.st.e.fd y hy hy'
   ·rw [e] at hy'
    obtain rfl : W'.heap.size = y := by simpa using hy'
    have := (h.st.e.dfs.lt _ hy).2
    have := Below.size hb
    omega⟩
 exact ⟨⟨e.put b0 (Nat.le_refl _) (by decide) (by decide) 7 v2, b0.put 7 v2, b1.far _ _ (by show w.heap.size + 1 ≠ w.heap.size; omega), h.st.h0, h.st.h1⟩, b2.far _ _ (by show w.heap.size + 1 + 1 ≠ w.heap.size; omega), b3.far _ _ (by show w.heap.size + 1 + 1 + 1 ≠ w.heap.size; omega)⟩
end Go.Proofs.Ythejnpignlhgiaa.Scall1
