import Derived.Test.YtdmcgkcpclepfaaXpl
import Derived.Test.YtdmcgkcpclepfaaSetM
import Derived.Test.YtdmcgkcpclepfaaLawI
set_option linter.all false
namespace Go.Proofs.Ytdmcgkcpclepfaa.Xrs
open Lib (hid)
open Go.ChangeShapes Go.WideShapes Go.ChangeAt Go.RowKit
open PL Mem Sst To AskP StpS Res PrgS IntsP LawI SetM Xcp Xpl
def LR (l : List Int) (w : World) (e : Ending) (w' : World) : Prop := ∃ A' c', e = .returned (.slice A' l.length c') ∧ OwnI w' w.heap.size (.slice A' l.length c') l ∧ Below w.heap.size w w'
theorem two_own {V : World} {g : Nat} {x : Int} (h : V.heap[g]? = some (.cells #[.int .i64 x] 3)) {B : Nat} (hB : B ≤ g) : OwnI V B (.slice (some ⟨g, 0, none⟩) 1 1) [x] :=
 ⟨by simp [cellsI], .inr ⟨g, 1, #[.int .i64 x], rfl, hB, h, Nat.le_refl _, by decide, by simp, by simp [cellsI]⟩⟩
set_option maxRecDepth 100000 in
set_option maxHeartbeats 4000000 in
theorem l9Reads_any (k a b : Int) (hk : k = 1 ∨ k = 2 ∨ k = 3 ∨ k = 4 ∨ k = 5 ∨ k = 6 ∨ k = 7 ∨ k = 8 ∨ k = 9 ∨ k = 10 ∨ k = 11 ∨ k = 12 ∨ k = 13) (w : World) :
  Calls Try.prog 53 #[.agg #[.int .i64 k, .int .i64 a, .int .i64 b]] w (LR (rdL (k, a, b)) w) := by
 by_cases h2 : k = 2
 ·subst h2
  clear hk
  have HE := hid (show rdL (2, a, b) = putS [a] b from rfl)
  have HO := hid (fun o : Obj => (show OwnI ((w.alloc o).alloc (.cells #[.int .i64 a] 3)) (w.heap.size + 1) (.slice (some ⟨w.heap.size + 1, 0, none⟩) 1 1) [a] from two_own (heap2_1 w _ _) (Nat.le_refl _)))
  go_enter Try.func53, Try.ntmps53
  go_wp2_with fail
  refine (l1Put_any (w.heap.size + 1) 1 1 _ [a] b (by omega) rfl (Nat.le_refl _) _ (HO.out _) (by simp)).mono ?_
  rintro e w2 ⟨A', c', rfl, o2, b2⟩
  have O2 := hid o2
  have B2 := hid b2
  clear o2 b2
  go_wp2_with fail
  go_ret
  exact ⟨A', c', by rw [HE.out] <;> rfl, by rw [HE.out]; exact own_mono O2.out (Nat.le_succ _), (((Below.refl w.heap.size w).alloc (Nat.le_refl _) _).alloc (by simp) _).trans (B2.out.mono (by simp; omega))⟩
 ·rcases hk with rfl | h2' | rfl | rfl | rfl | rfl | rfl | rfl | rfl | rfl | rfl | rfl | rfl
  case inr.inl => exact absurd h2' h2
  all_goals
   clear h2
   go_enter Try.func53, Try.ntmps53
   go_wp2_with fail
   go_ret
   first
   | exact ⟨_, _, rfl, own_mono (App.empty_own (heap2_1 w _ _) (Nat.le_refl _)) (Nat.le_succ _), ((Below.refl _ _).alloc (Nat.le_refl _) _).alloc (by simp) _⟩
   | exact ⟨_, _, rfl, own_mono (two_own (heap2_1 w _ _) (Nat.le_refl _)) (Nat.le_succ _), ((Below.refl _ _).alloc (Nat.le_refl _) _).alloc (by simp) _⟩
set_option maxRecDepth 100000 in
set_option maxHeartbeats 4000000 in
theorem l9Writes_any (k a b : Int) (hk : k = 1 ∨ k = 2 ∨ k = 3 ∨ k = 4 ∨ k = 5 ∨ k = 6 ∨ k = 7 ∨ k = 8 ∨ k = 9 ∨ k = 10 ∨ k = 11 ∨ k = 12 ∨ k = 13) (w : World) :
  Calls Try.prog 59 #[.agg #[.int .i64 k, .int .i64 a, .int .i64 b]] w (LR (wrL (k, a, b)) w) := by
 by_cases h2 : k = 7
 ·subst h2
  clear hk
  have HE := hid (show wrL (7, a, b) = putS [a] 3 from rfl)
  have HO := hid (fun o : Obj => (show OwnI ((w.alloc o).alloc (.cells #[.int .i64 a] 3)) (w.heap.size + 1) (.slice (some ⟨w.heap.size + 1, 0, none⟩) 1 1) [a] from two_own (heap2_1 w _ _) (Nat.le_refl _)))
  go_enter Try.func59, Try.ntmps59
  go_wp2_with fail
  refine (l1Put_any (w.heap.size + 1) 1 1 _ [a] 3 (by omega) rfl (Nat.le_refl _) _ (HO.out _) (by simp)).mono ?_
  rintro e w2 ⟨A', c', rfl, o2, b2⟩
  have O2 := hid o2
  have B2 := hid b2
  clear o2 b2
  go_wp2_with fail
  go_ret
  exact ⟨A', c', by rw [HE.out] <;> rfl, by rw [HE.out]; exact own_mono O2.out (Nat.le_succ _), (((Below.refl w.heap.size w).alloc (Nat.le_refl _) _).alloc (by simp) _).trans (B2.out.mono (by simp; omega))⟩
 ·rcases hk with rfl | rfl | rfl | rfl | rfl | rfl | h2' | rfl | rfl | rfl | rfl | rfl | rfl
  case inr.inr.inr.inr.inr.inr.inl => exact absurd h2' h2
  all_goals
   clear h2
   go_enter Try.func59, Try.ntmps59
   go_wp2_with fail
   go_ret
   first
   | exact ⟨_, _, rfl, own_mono (App.empty_own (heap2_1 w _ _) (Nat.le_refl _)) (Nat.le_succ _), ((Below.refl _ _).alloc (Nat.le_refl _) _).alloc (by simp) _⟩
   | exact ⟨_, _, rfl, own_mono (two_own (heap2_1 w _ _) (Nat.le_refl _)) (Nat.le_succ _), ((Below.refl _ _).alloc (Nat.le_refl _) _).alloc (by simp) _⟩
set_option maxRecDepth 100000 in
set_option maxHeartbeats 4000000 in
theorem rdS_any (lo n c : Nat) (A : Option Addr) (p : Pg) (f k : Int) (hn : n ≤ 9223372036854775807) (hl : p.length = n) (hsm : Small p 9223372036854775807) (w : World) (ho : OwnP w lo (.slice A n c) p) :
  Calls Try.prog 16 #[.agg #[.slice A n c], .int .i64 f, .int .i64 k] w (IntsR (readsR p f k) w) := by
 have hP := hid (fun W (h : Below w.heap.size w W) => l9Place_any n c A p f k hn hl hsm W ((ho.rd.below h).more h.size))
 have HRW := hid (fun (i : Nat) (xs : List Tr) (hx : p[i]? = some xs) V (b : Below w.heap.size w V) => (ho.rd.below b) i xs hx)
 have H1 := hid (fun o : Obj => (show Below w.heap.size w (w.alloc o) from (Below.refl _ _).alloc (Nat.le_refl _) _))
 have z0 : (w.alloc (.cells #[.slice A n c] 31)).cell? ⟨w.heap.size, 0, none⟩ = some (.slice A n c) := cell_of_row _ _ 0 _ _ (0, 0) (heap1_0 w _)
 have hkeep : ∀ W, Below (w.alloc (.cells #[.slice A n c] 31)).heap.size (w.alloc (.cells #[.slice A n c] 31)) W → W.cell? ⟨w.heap.size, 0, none⟩ = some (.slice A n c) := fun W h => (h.cell (by show w.heap.size < _; simp)).trans z0
 have HK := hid hkeep
 clear hkeep z0
 cases hpl : isPlace p f k with
 | false =>
  rw [hpl] at hP
  have HS := hid (show readsR p f k = ([], false) by unfold readsR; rw [hpl]; rfl)
  clear hpl ho hl hsm
  go_enter Try.func16, Try.ntmps16
  go_wp2_with fail
  refine (hP.out _ (H1.out _)).mono ?_
  rintro e w1 ⟨rfl, b1⟩
  have BB := hid ((H1.out _).trans (b1.mono (by simp)))
  clear b1
  go_wp2_with fail
  go_ret2
  exact ⟨_, _, by rw [HS.out] <;> rfl, by rw [HS.out]; exact own_mono (App.empty_own (heap1_0 w1 _) (Nat.le_refl _)) BB.out.size, BB.out.alloc BB.out.size _⟩
 | true =>
  rw [hpl] at hP
  have hpl' := hpl
  unfold isPlace at hpl'
  simp only [Bool.and_eq_true, decide_eq_true_eq] at hpl'
  obtain ⟨⟨hfn, hk0⟩, hk1⟩ := hpl'
  obtain ⟨hok, f0, fn, hx⟩ := isFn_parts hfn
  obtain ⟨j, rfl⟩ := Int.eq_ofNat_of_zero_le f0
  obtain ⟨q, rfl⟩ := Int.eq_ofNat_of_zero_le hk0
  have h8 := body_le hfn
  have hR : readsR p j q = (rdL ((body p j).getD q (0, 0, 0)), true) := by unfold readsR; rw [hpl]; simp
  rw [Int.toNat_natCast] at hx
  rw [hl] at fn
  have hst := ((okProg_parts hok).2.2 j _ hx).2
  generalize body p j = xs at *
  have hq : q < xs.length := by omega
  obtain ⟨⟨s0, s1, s2⟩, hs⟩ : ∃ s, xs[q]? = some s := ⟨_, List.getElem?_eq_getElem hq⟩
  have hkind := ok_kinds (hst _ (List.mem_of_getElem? hs))
  rw [List.getD_eq_getElem?_getD, hs, Option.getD_some] at hR
  have HS := hid hR
  have HL := hid (fun W => l9Reads_any s0 s1 s2 hkind W)
  have HR1 := hid (HRW.out j xs hx)
  have HX := hid hs
  generalize hLL : rdL (s0, s1, s2) = l at *
  clear hpl ho hl hsm hfn hok hx hst hs hkind hR HRW hLL
  go_enter Try.func16, Try.ntmps16
  go_wp2_with fail
  refine (hP.out _ (H1.out _)).mono ?_
  rintro e w1 ⟨rfl, b1⟩
  have k1 := HK.out w1 b1
  have bb := (H1.out _).trans (b1.mono (by simp))
  obtain ⟨ad, Ai, ci, rfl, hab, h0, h1⟩ := HR1.out _ bb
  obtain ⟨sd, rfl, has, q0, q1, q2⟩ := h1 q _ HX.out
  dsimp only at q0 q1 q2
  have BB := hid bb
  clear bb b1 HR1 hP HK H1 h1
  go_wp2_with fail
  refine (HL.out _).mono ?_
  rintro e w2 ⟨Ar, cr, rfl, o2, b2⟩
  have O2 := hid o2
  have B2 := hid (BB.out.trans (b2.mono BB.out.size))
  clear o2 b2
  go_wp2_with fail
  go_ret2
  exact ⟨Ar, cr, by rw [HS.out] <;> rfl, by rw [HS.out]; exact own_mono O2.out BB.out.size, B2.out⟩
set_option maxRecDepth 100000 in
set_option maxHeartbeats 4000000 in
theorem wrS_any (lo n c : Nat) (A : Option Addr) (p : Pg) (f k : Int) (hn : n ≤ 9223372036854775807) (hl : p.length = n) (hsm : Small p 9223372036854775807) (w : World) (ho : OwnP w lo (.slice A n c) p) :
  Calls Try.prog 24 #[.agg #[.slice A n c], .int .i64 f, .int .i64 k] w (IntsR (writesR p f k) w) := by
 have hP := hid (fun W (h : Below w.heap.size w W) => l9Place_any n c A p f k hn hl hsm W ((ho.rd.below h).more h.size))
 have HRW := hid (fun (i : Nat) (xs : List Tr) (hx : p[i]? = some xs) V (b : Below w.heap.size w V) => (ho.rd.below b) i xs hx)
 have H1 := hid (fun o : Obj => (show Below w.heap.size w (w.alloc o) from (Below.refl _ _).alloc (Nat.le_refl _) _))
 have z0 : (w.alloc (.cells #[.slice A n c] 31)).cell? ⟨w.heap.size, 0, none⟩ = some (.slice A n c) := cell_of_row _ _ 0 _ _ (0, 0) (heap1_0 w _)
 have hkeep : ∀ W, Below (w.alloc (.cells #[.slice A n c] 31)).heap.size (w.alloc (.cells #[.slice A n c] 31)) W → W.cell? ⟨w.heap.size, 0, none⟩ = some (.slice A n c) := fun W h => (h.cell (by show w.heap.size < _; simp)).trans z0
 have HK := hid hkeep
 clear hkeep z0
 cases hpl : isPlace p f k with
 | false =>
  rw [hpl] at hP
  have HS := hid (show writesR p f k = ([], false) by unfold writesR; rw [hpl]; rfl)
  clear hpl ho hl hsm
  go_enter Try.func24, Try.ntmps24
  go_wp2_with fail
  refine (hP.out _ (H1.out _)).mono ?_
  rintro e w1 ⟨rfl, b1⟩
  have BB := hid ((H1.out _).trans (b1.mono (by simp)))
  clear b1
  go_wp2_with fail
  go_ret2
  exact ⟨_, _, by rw [HS.out] <;> rfl, by rw [HS.out]; exact own_mono (App.empty_own (heap1_0 w1 _) (Nat.le_refl _)) BB.out.size, BB.out.alloc BB.out.size _⟩
 | true =>
  rw [hpl] at hP
  have hpl' := hpl
  unfold isPlace at hpl'
  simp only [Bool.and_eq_true, decide_eq_true_eq] at hpl'
  obtain ⟨⟨hfn, hk0⟩, hk1⟩ := hpl'
  obtain ⟨hok, f0, fn, hx⟩ := isFn_parts hfn
  obtain ⟨j, rfl⟩ := Int.eq_ofNat_of_zero_le f0
  obtain ⟨q, rfl⟩ := Int.eq_ofNat_of_zero_le hk0
  have h8 := body_le hfn
  have hR : writesR p j q = (wrL ((body p j).getD q (0, 0, 0)), true) := by unfold writesR; rw [hpl]; simp
  rw [Int.toNat_natCast] at hx
  rw [hl] at fn
  have hst := ((okProg_parts hok).2.2 j _ hx).2
  generalize body p j = xs at *
  have hq : q < xs.length := by omega
  obtain ⟨⟨s0, s1, s2⟩, hs⟩ : ∃ s, xs[q]? = some s := ⟨_, List.getElem?_eq_getElem hq⟩
  have hkind := ok_kinds (hst _ (List.mem_of_getElem? hs))
  rw [List.getD_eq_getElem?_getD, hs, Option.getD_some] at hR
  have HS := hid hR
  have HL := hid (fun W => l9Writes_any s0 s1 s2 hkind W)
  have HR1 := hid (HRW.out j xs hx)
  have HX := hid hs
  generalize hLL : wrL (s0, s1, s2) = l at *
  clear hpl ho hl hsm hfn hok hx hst hs hkind hR HRW hLL
  go_enter Try.func24, Try.ntmps24
  go_wp2_with fail
  refine (hP.out _ (H1.out _)).mono ?_
  rintro e w1 ⟨rfl, b1⟩
  have k1 := HK.out w1 b1
  have bb := (H1.out _).trans (b1.mono (by simp))
  obtain ⟨ad, Ai, ci, rfl, hab, h0, h1⟩ := HR1.out _ bb
  obtain ⟨sd, rfl, has, q0, q1, q2⟩ := h1 q _ HX.out
  dsimp only at q0 q1 q2
  have BB := hid bb
  clear bb b1 HR1 hP HK H1 h1
  go_wp2_with fail
  refine (HL.out _).mono ?_
  rintro e w2 ⟨Ar, cr, rfl, o2, b2⟩
  have O2 := hid o2
  have B2 := hid (BB.out.trans (b2.mono BB.out.size))
  clear o2 b2
  go_wp2_with fail
  go_ret2
  exact ⟨Ar, cr, by rw [HS.out] <;> rfl, by rw [HS.out]; exact own_mono O2.out BB.out.size, B2.out⟩
end Go.Proofs.Ytdmcgkcpclepfaa.Xrs
-- squeezed
