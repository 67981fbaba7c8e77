import Derived.Test.YtdmcgkcpclepfaaDefer2
import Derived.Deep.RegionLaw
set_option linter.all false
namespace Go.Proofs.Ytdmcgkcpclepfaa.DelP
open Lib (hid)
open Go.ChangeShapes Go.WideShapes Go.ChangeAt Go.RowKit
open PL Mem To OwnS
def setL : List Value → Nat → List Value → List Value
 | xs, _, [] => xs
 | xs, o, v :: vs => setL (xs.set o v) (o + 1) vs
theorem setL_length : ∀ (vs : List Value) (xs : List Value) (o : Nat), (setL xs o vs).length = xs.length
 | [], _, _ => rfl
 | v :: vs, xs, o => by rw [setL, setL_length vs]; simp
theorem setL_eq : ∀ (vs : List Value) (xs : List Value) (o : Nat), o + vs.length ≤ xs.length → setL xs o vs = xs.take o ++ vs ++ xs.drop (o + vs.length)
 | [], xs, o, h => by simp [setL]
 | v :: vs, xs, o, h => by
  simp only [List.length_cons] at h
  rw [setL, setL_eq vs (xs.set o v) (o + 1) (by simp; omega)]
  have h1 : (xs.set o v).take (o + 1) = xs.take o ++ [v] := by
   rw [List.take_add_one, List.take_set_of_le (by omega), List.getElem?_set_self (by omega)]; rfl
  have h2 : (xs.set o v).drop (o + 1 + vs.length) = xs.drop (o + 1 + vs.length) := by rw [List.drop_set_of_lt (by omega)]
  rw [h1, h2]
  simp [Nat.add_assoc, Nat.add_comm 1]
theorem own_setCells {B e sz n g c : Nat} : ∀ (vs : List Value) (w : World) (xs : List Value) (o : Nat), w.ownsRow B e sz (.slice (some ⟨g, 0, none⟩) n c) n xs →
  (w.setCells g o vs).ownsRow B e sz (.slice (some ⟨g, 0, none⟩) n c) n (setL xs o vs)
 | [], _, _, _, h => h
 | v :: vs, w, xs, o, h => own_setCells vs _ _ (o + 1) (h.stored o v).1
theorem chg_setCells (g : Nat) : ∀ (vs : List Value) (w : World) (o : Nat), Chg (fun b => b = g) w (w.setCells g o vs)
 | [], w, _ => Chg.refl _ w
 | v :: vs, w, o => (Chg.set w ⟨g, o, none⟩ v).trans (chg_setCells g vs _ (o + 1)) (fun _ _ h => h)
theorem own_shrink {w : World} {B e sz n m c : Nat} {A : Option Addr} {xs : List Value} (h : w.ownsRow B e sz (.slice A n c) n xs) (hm : m ≤ n) : w.ownsRow B e sz (.slice A m c) m (xs.take (m * sz)) := by
 have hms : m * sz ≤ n * sz := Nat.mul_le_mul_right sz hm
 rcases h.2 with ⟨hv, rfl⟩ | ⟨g, cap, cur, hv, hB, hg, hnc, hcm, hcs, ht⟩
 ·simp only [Value.slice.injEq] at hv
  obtain ⟨rfl, _, rfl⟩ := hv
  obtain rfl : m = 0 := by omega
  exact ⟨by simp, .inl ⟨rfl, rfl⟩⟩
 ·simp only [Value.slice.injEq, true_and] at hv
  obtain ⟨rfl, rfl⟩ := hv
  refine ⟨by rw [List.length_take, h.1]; omega, .inr ⟨g, c, cur, rfl, hB, hg, by omega, hcm, hcs, ?_⟩⟩
  rw [← ht, List.take_take, Nat.min_eq_left hms]
theorem cells3_take (l : List Tr) (k : Nat) (h : k ≤ l.length) : (cells3 l).take (k * 3) = cells3 (l.take k) := by
 have : cells3 l = cells3 (l.take k) ++ cells3 (l.drop k) := by rw [← cells3_append, List.take_append_drop]
 rw [this, List.take_append_of_le_length (by rw [cells3_length, List.length_take]; omega), List.take_of_length_le (by rw [cells3_length, List.length_take]; omega)]
def z3 : List Value := [.int .i64 0, .int .i64 0, .int .i64 0]
def DelR (lo n c : Nat) (A : Option Addr) (xs : List Tr) (k : Nat) (w : World) (e : Ending) (w' : World) : Prop :=
 e = .returned (.slice A (n - 1) c) ∧ w'.ownsRow lo 58 3 (.slice A (n - 1) c) (n - 1) (cells3 (xs.take k ++ xs.drop (k + 1))) ∧ Chg (fun b => (Value.slice A n c).ownBlock = some b) w w'
theorem run_clear3 {P : Program} (w : World) (t e ty : TypeId) (z : Value) (ht : P.underlying t = some (.slice e)) (hv : ∀ w, (zeroValue e).run P w = .ok z w) (hz : z.cells = #[.int .i64 0, .int .i64 0, .int .i64 0]) (b o c : Nat)
  (hc : ∀ j, j < 3 → (w.cell? ⟨b, o + j, none⟩).isSome = true) (hf : ∀ j, j < 3 → w.frozen? ⟨b, o + j, none⟩ = false) :
  (Builtin.clear_ #[t] ty #[.slice (some ⟨b, o, none⟩) 1 c]).run P w = .ok (.tuple #[]) (w.setCells b o z3) := by
 have hzc : (Builtin.zeroCells z.cells 1).toList = z3 := by
  rw [hz]
  apply List.ext_getElem
  ·simp [Builtin.zeroCells, z3]
  ·intro i h1 h2
   have h3 : i < 3 := by simpa [z3] using h2
   have h4 : i = 0 ∨ i = 1 ∨ i = 2 := by omega
   rcases h4 with rfl | rfl | rfl <;> simp [Builtin.zeroCells, z3]
 have hst := run_storeCells_cells (P := P) b o z3 0 w (by simpa [z3] using hc) (by simpa [z3] using hf) (by intro v hv'; simp [z3] at hv'; rw [hv']; rfl)
 simp only [Nat.add_zero] at hst
 simp [Builtin.clear_, run_underlying ht, hv, hzc, hst]
theorem zeroStep : ∀ w, (zeroValue 58).run Try.prog w = .ok (.agg #[.int .i64 0, .int .i64 0, .int .i64 0]) w := Try.zeroValue58
set_option maxHeartbeats 2000000 in
set_option maxRecDepth 100000 in
theorem delete_any (lo n c : Nat) (A : Option Addr) (xs : List Tr) (k : Nat) (hn : n ≤ 100) (hl : xs.length = n) (hk : k < n) (w : World) (ho : w.ownsRow lo 58 3 (.slice A n c) n (cells3 xs)) :
  Calls Try.prog 126 #[.slice A n c, .int .i64 k, .int .i64 (k + 1)] w (DelR lo n c A xs k w) := by
 obtain ⟨i0, hi, hz0, hz1, hz2⟩ := info_parts infoStep
 obtain ⟨g, rfl, hB, hcn, hcm⟩ : ∃ g, A = some ⟨g, 0, none⟩ ∧ lo ≤ g ∧ n ≤ c ∧ c ≤ 9223372036854775807 := by
  rcases ho.2 with ⟨hv, h0⟩ | ⟨g, cap, cur, hv, hB, _, h1, h2, _⟩
  ·omega
  ·simp only [Value.slice.injEq, true_and] at hv
   obtain ⟨rfl, rfl⟩ := hv
   exact ⟨g, rfl, hB, h1, by unfold maxLen at h2; exact h2⟩
 have hO := hid ho
 have hsz : (cells3 xs).length = n * 3 := ho.1
 obtain ⟨news, hnews⟩ : ∃ news, news = cells3 (xs.drop (k + 1)) := ⟨_, rfl⟩
 have hlen : news.length = (n - (k + 1)) * 3 := by rw [hnews, cells3_length, List.length_drop, hl]
 have hone : Hid (∀ u ∈ news, u.oneCell' = true) := hid (by rw [hnews]; exact cells3_one)
 obtain ⟨Ad, hAd, hsrc⟩ : ∃ Ad : Addr, (if c = k + 1 then some (⟨g, 0, none⟩ : Addr) else some ⟨g, (k + 1) * 3, none⟩) = some Ad ∧ Hid (∀ t u, news[t]? = some u → w.drew.cell? (Ad.add t) = some u) := by
  by_cases h : c = k + 1
  ·refine ⟨⟨g, 0, none⟩, by simp [h], hid fun t u hu => ?_⟩
   have h0 : news.length = 0 := by rw [hlen]; omega
   rw [List.length_eq_zero_iff.1 h0] at hu
   simp at hu
  ·refine ⟨⟨g, (k + 1) * 3, none⟩, by simp [h], hid fun t u hu => ?_⟩
   have ht : t < (n - (k + 1)) * 3 := by
    have := (List.getElem?_eq_some_iff.1 hu).1
    omega
   have e : (cells3 xs)[(k + 1) * 3 + t]? = news[t]? := by
    have : cells3 xs = cells3 (xs.take (k + 1)) ++ news := by rw [hnews, ← cells3_append, List.take_append_drop]
    rw [this, List.getElem?_append_right (by rw [cells3_length, List.length_take]; omega)]
    congr 1
    rw [cells3_length, List.length_take]; omega
   rw [Addr.add_lit]
   exact (ho.cellAt ((k + 1) * 3 + t) (by omega)).trans (e.trans hu)
 have s1 := hid hlen
 have s3 : Hid (∀ t, t < news.length → (w.drew.cell? ⟨g, 0 + k * 3 + t, none⟩).isSome = true ∧ w.drew.frozen? ⟨g, 0 + k * 3 + t, none⟩ = false) := hid (by
  intro t ht
  rw [Nat.zero_add]
  refine ⟨?_, ho.frozenAt _⟩
  show (w.cell? _).isSome = true
  rw [ho.cellAt (k * 3 + t) (by omega), List.getElem?_eq_getElem (by omega)]; rfl)
 obtain ⟨W1, hW1⟩ : ∃ W1, W1 = w.drew.setCells g (0 + k * 3) news := ⟨_, rfl⟩
 have o1 : W1.ownsRow lo 58 3 (.slice (some ⟨g, 0, none⟩) n c) n (setL (cells3 xs) (k * 3) news) := by
  rw [hW1, Nat.zero_add]
  exact own_setCells news w.drew (cells3 xs) (k * 3) (own_below ho (Below.refl _ _).drew (Nat.le_refl _))
 have hcl : ∀ ty cc, (Builtin.clear_ #[59] ty #[.slice (some ⟨g, (k + (n - (k + 1))) * 3, none⟩) 1 cc]).run Try.prog W1 = .ok (.tuple #[]) (W1.setCells g ((k + (n - (k + 1))) * 3) z3) :=
  fun ty cc => run_clear3 W1 _ _ ty _ Try.underlying59 zeroStep rfl g _ cc (fun j hj => by rw [o1.cellAt _ (by omega), List.getElem?_eq_getElem (by rw [o1.1]; omega)]; rfl) (fun j _ => o1.frozenAt _)
 have c1 : Chg (fun b => b = g) w W1 := by rw [hW1]; exact (Chg.drew _ w).trans (chg_setCells g news _ _) (fun _ _ h => h)
 have O1 := hid o1
 have C1 := hid c1
 have hW := hid hW1
 have HN := hid hnews
 have HL := hid hl
 have hkc : k ≤ c := by omega
 have hb1 : (0 : Int) ≤ (k : Int) + 1 := by omega
 have hb2 : (k : Int) + 1 ≤ (n : Int) := by omega
 clear hW1 o1 c1 ho hlen hsz hnews hl
 have hkn : k + (n - (k + 1)) = n - 1 := by omega
 have HK := hid hkn
 clear hkn
 go_enter Try.func126, Try.ntmps126
 go_wp2_with fail
 go_region_law (refine step_append_room rfl (.tmp 22) (.tmp 25) 59 rfl 58 i0 3 Try.underlying59 hi hz1 g 0 k c (by simp [Act.eval, Act.put]) Ad (n - (k + 1)) (c - (k + 1)) news (by simp [Act.eval, Act.put]) s1.out hsrc.out hone.out (by omega) s3.out ?_; rw [← hW.out])
 obtain ⟨q, hq⟩ : ∃ q, k + (n - (k + 1)) = q := ⟨_, rfl⟩
 rw [hq] at hcl
 simp only [Act.put, List.setIfInBounds_toArray, List.set_cons_zero, List.set_cons_succ, hq]
 have hn1 : n = q + 1 := by omega
 have HQ := hid hn1
 have hnq : n - q = 1 := by omega
 have hcq : ¬ c = q := by omega
 have hb3 : (q : Int) ≤ (n : Int) := by omega
 have hb4 : (n : Int) ≤ (c : Int) := by omega
 have hqc : q ≤ c := by omega
 clear hq hn1 hAd hb1 hb2
 go_wp2_with fail
 go_ret
 have hq := HQ.out
 have hl := HL.out
 have n1 : n - 1 = q := by omega
 refine ⟨by rw [n1]; rfl, ?_, ?_⟩
 ·have h1 := own_shrink (own_setCells z3 W1 _ (q * 3) O1.out) (m := q) (by omega)
  have e0 : (cells3 xs).length = n * 3 := hO.out.1
  have e1 : news.length = (n - (k + 1)) * 3 := s1.out
  have e2 : setL (cells3 xs) (k * 3) news = (cells3 (xs.take k) ++ news) ++ (cells3 xs).drop (k * 3 + news.length) := by
   rw [setL_eq _ _ _ (by omega), cells3_take _ _ (by omega)]
  have e3 : (setL (setL (cells3 xs) (k * 3) news) (q * 3) z3).take (q * 3) = cells3 (xs.take k ++ xs.drop (k + 1)) := by
   rw [setL_eq _ _ _ (by rw [setL_length]; show q * 3 + 3 ≤ _; omega), List.append_assoc, List.take_append_of_le_length (by rw [List.length_take, setL_length]; omega), List.take_take, Nat.min_self, e2,
    List.take_append_of_le_length (by rw [List.length_append, cells3_length, List.length_take]; omega), List.take_of_length_le (by rw [List.length_append, cells3_length, List.length_take]; omega), HN.out, ← cells3_append]
  rw [e3] at h1
  rw [n1]
  exact h1
 ·exact (C1.out.trans (chg_setCells g z3 W1 (q * 3)) (fun _ _ h => h)).mono (fun x _ hx => by obtain rfl : x = g := hx; rfl)
end Go.Proofs.Ytdmcgkcpclepfaa.DelP
-- squeezed
