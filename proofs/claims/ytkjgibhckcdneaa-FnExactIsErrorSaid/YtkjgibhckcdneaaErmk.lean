/- Writing numbers over errors and reading them back, as the laws do to see that memory is not shared. -/
import Derived.Test.YtkjgibhckcdneaaErto
namespace Go.Proofs.Ytkjgibhckcdneaa.ErK
set_option linter.unusedVariables false
set_option linter.unusedSimpArgs false
open Go.ChangeShapes Go.WideShapes Go.ChangeAt Go.RowKit
open Mem IntsP ErP ErM ErT

def cntE (p : Er) : Nat := (p.map (fun s => 2 + s.2.2.length)).sum
def mkN (k : Int) (m : Nat) : En := (k, k + 1, marksI (k + 1 + 1) m)
def markE (k : Int) : Er → Er
  | [] => []
  | s :: p => mkN k s.2.2.length :: markE (k + (2 + s.2.2.length : Nat)) p
theorem markE_length : ∀ (k : Int) (p : Er), (markE k p).length = p.length
  | _, [] => rfl
  | k, s :: p => by simp [markE, markE_length _ p]
theorem cntE_cons (s : En) (p : Er) : cntE (s :: p) = 2 + s.2.2.length + cntE p := by simp [cntE]
theorem markE_snoc : ∀ (k : Int) (p : Er) (s : En), markE k (p ++ [s]) = markE k p ++ [mkN (k + cntE p) s.2.2.length]
  | k, [], s => by simp [markE, cntE]
  | k, t :: p, s => by
    rw [List.cons_append, markE, markE, List.cons_append, markE_snoc _ p s]
    have : k + (2 + t.2.2.length : Nat) + (cntE p : Int) = k + (cntE (t :: p) : Int) := by rw [cntE_cons]; omega
    rw [this]
theorem markE_at : ∀ (k : Int) (p : Er) (i : Nat) (s : En), p[i]? = some s → (markE k p)[i]? = some (mkN (k + cntE (p.take i)) s.2.2.length)
  | k, [], i, s, h => by simp at h
  | k, t :: p, 0, s, h => by
    obtain rfl : t = s := by simpa using h
    simp [markE, cntE]
  | k, t :: p, i + 1, s, h => by
    have := markE_at (k + (2 + t.2.2.length : Nat)) p i s (by simpa using h)
    have e : k + (2 + t.2.2.length : Nat) + (cntE (p.take i) : Int) = k + (cntE ((t :: p).take (i + 1)) : Int) := by rw [List.take_succ_cons, cntE_cons]; omega
    rw [markE, List.getElem?_cons_succ, this, e]
theorem cntE_next (p : Er) (i : Nat) (s : En) (h : p[i]? = some s) : cntE (p.take (i + 1)) = cntE (p.take i) + (2 + s.2.2.length) := by
  unfold cntE
  rw [List.take_add_one, h]
  simp
theorem cntE_take (p : Er) (i : Nat) : cntE (p.take i) ≤ cntE p := by
  unfold cntE
  have : (p.map (fun s => 2 + s.2.2.length)).sum = ((p.take i).map (fun s => 2 + s.2.2.length)).sum + ((p.drop i).map (fun s => 2 + s.2.2.length)).sum := by
    conv => lhs; rw [← List.take_append_drop i p]
    rw [List.map_append, List.sum_append]
  omega
theorem partE_length (k : Int) (p : Er) (i : Nat) (hi : i ≤ p.length) : (markE k (p.take i) ++ p.drop i).length = p.length := by
  rw [List.length_append, markE_length, List.length_take, List.length_drop]; omega
theorem partE_at (k : Int) (p : Er) (i : Nat) (s : En) (h : p[i]? = some s) : (markE k (p.take i) ++ p.drop i)[i]? = some s := by
  have hi := (List.getElem?_eq_some_iff.1 h).1
  rw [List.getElem?_append_right (by rw [markE_length, List.length_take]; omega), markE_length, List.length_take, Nat.min_eq_left (by omega), Nat.sub_self, List.getElem?_drop]
  simpa using h
theorem partE_set (k : Int) (p : Er) (i : Nat) (s : En) (h : p[i]? = some s) : (markE k (p.take i) ++ p.drop i).set i (mkN (k + cntE (p.take i)) s.2.2.length) = markE k (p.take (i + 1)) ++ p.drop (i + 1) := by
  have hi := (List.getElem?_eq_some_iff.1 h).1
  have hl : (markE k (p.take i)).length = i := by rw [markE_length, List.length_take]; omega
  rw [List.set_append_right _ _ (by omega), hl, Nat.sub_self, List.drop_eq_getElem_cons hi, List.set_cons_zero, List.take_add_one, h, Option.toList_some, markE_snoc, List.append_assoc]
  rfl
theorem markE_small {k : Int} {p : Er} {N : Nat} (h : SmallE p N) : SmallE (markE k p) N := by
  intro i s hs
  have hi : i < p.length := by have := (List.getElem?_eq_some_iff.1 hs).1; rwa [markE_length] at this
  rw [markE_at k p i _ (List.getElem?_eq_getElem hi)] at hs
  obtain rfl : mkN _ _ = s := by simpa using hs
  simp only [mkN, marksI_length]
  exact h i _ (List.getElem?_eq_getElem hi)

/-! ### The walks. -/
def MarkedE (lo hi n c : Nat) (A : Option Addr) (p : Er) (k : Int) (w : World) (e : Ending) (w' : World) : Prop :=
  e = .returned (.int .i64 (k + cntE p)) ∧ OwnHE w' lo hi (.slice A n c) (markE k p) ∧ Chg (fun b => lo ≤ b ∧ b < hi) w w'
set_option maxHeartbeats 2000000 in
theorem markErrorNodeS_any (lo hi n c : Nat) (A : Option Addr) (p : Er) (k : Int) (hn : n ≤ 2000000) (hl : p.length = n) (hsm : SmallE p 2000000) (hk0 : 0 ≤ k) (hk : k + cntE p ≤ 20000000000) (w : World)
    (ho : OwnHE w lo hi (.slice A n c) p) :
    Calls Try.prog 54 #[.slice A n c, .int .i64 k] w (MarkedE lo hi n c A p k w) := by
  have hO0 := Lib.hid ho
  have hL := Lib.hid hl
  have hS := Lib.hid hsm
  clear ho hl hsm
  go_enter Try.func54, Try.ntmps54
  go_wp2
  go_loopw [1, 5] (fun v i wr => ∃ (j : Nat) (m : Int), j ≤ n ∧ i = .int .i64 j ∧ v = .int .i64 m ∧ 0 ≤ m ∧ m ≤ 20000000000 ∧ Hid (m = k + cntE (p.take j)) ∧ OwnHE wr lo hi (.slice A n c) (markE k (p.take j) ++ p.drop j) ∧
      Chg (fun b => lo ≤ b ∧ b < hi) w wr) (fun _ i _ => n - (intOf i).toNat)
  case atStart => exact ⟨0, k, Nat.zero_le _, rfl, rfl, hk0, by omega, Lib.hid (by simp [cntE]), by simpa [markE] using hO0.out, Chg.refl _ _⟩
  case round =>
    obtain ⟨j, m, hj, rfl, rfl, m0, m1, hM, hown, hch⟩ := hrel
    by_cases hlt : j < n
    · obtain ⟨⟨s0, s1, s2⟩, hs⟩ : ∃ s, p[j]? = some s := ⟨_, List.getElem?_eq_getElem (by rw [hL.out]; exact hlt)⟩
      obtain ⟨g, rfl, hlo, hhi, c0, c1, f0, hput1⟩ := hown.head (partE_at k p j _ hs)
      have hput2 := hput1 m (m + 1)
      have hjl : j < (markE k (p.take j) ++ p.drop j).length := by rw [partE_length _ _ _ (by rw [hL.out]; omega), hL.out]; exact hlt
      obtain ⟨g', Ai, ci, hg', hc, hrow, hbd, hput⟩ := hput2.row (s := (m, m + 1, s2)) (by rw [List.getElem?_set_self hjl])
      obtain rfl : g = g' := by simpa using hg'
      have hxn : s2.length ≤ 2000000 := hS.out j _ hs
      have hnx := cntE_next p j _ hs
      have hct := cntE_take p (j + 1)
      have m2 : m + 1 + 1 + s2.length ≤ 20000000000 := by have := hM.out; simp only at hnx; omega
      have hc' : (wr.cell? ⟨g, j * 3 + 2, none⟩) = some (.slice Ai s2.length ci) := by
        rw [← hc]; simp [go_sem]
      have HR := Lib.hid hrow
      have HP := Lib.hid hput
      have HB := Lib.hid hbd
      have HC := Lib.hid hch
      have HS := Lib.hid hs
      have HN := Lib.hid hnx
      have HG := Lib.hid (And.intro hlo hhi)
      clear hown hrow hput hput1 hput2 hbd hch hs hnx hct hc hlo hhi hjl hg'
      dsimp only at *
      go_wp2_with fail
      refine (markIntS_any lo s2.length ci Ai s2 (m + 1 + 1) hxn rfl (by omega) (by omega) _ HR.out).mono ?_
      rintro e w1 ⟨rfl, o1, c1⟩
      have O1 := Lib.hid o1
      have C1 := Lib.hid c1
      clear o1 c1
      go_wp2_with fail
      go_roundw
      case rel =>
        refine ⟨j + 1, m + 1 + 1 + s2.length, by omega, by go_num, rfl, by omega, by omega, Lib.hid (by rw [hM.out, HN.out]; omega), ?_, ?_⟩
        · have hp := HP.out _ (marksI (m + 1 + 1) s2.length) (marksI_length _ _) O1.out C1.out
          rw [List.set_set] at hp
          rw [← partE_set k p j _ HS.out, ← hM.out]
          exact hp
        · refine Chg.trans (Chg.put (Chg.put HC.out _ _ (.inr HG.out)) _ _ (.inr HG.out)) C1.out (fun x _ hx => ?_)
          have := HB.out x hx
          exact ⟨this.1, this.2.1⟩
      case measure => simp [intOf]; omega
    · obtain rfl : j = n := by omega
      have hO := Lib.hid hown
      have hC := Lib.hid hch
      clear hown hch
      go_wp2
      go_ret
      have e1 : p.take j = p := List.take_of_length_le (by rw [hL.out]; omega)
      refine ⟨by rw [hM.out, e1]; rfl, ?_, hC.out⟩
      have := hO.out
      rwa [List.drop_eq_nil_of_le (by rw [hL.out]; omega), List.append_nil, e1] at this
theorem markErrors_any (lo hi n c : Nat) (A : Option Addr) (p : Er) (k : Int) (hn : n ≤ 2000000) (hl : p.length = n) (hsm : SmallE p 2000000) (hk0 : 0 ≤ k) (hk : k + cntE p ≤ 20000000000) (w : World)
    (hh : hi ≤ w.heap.size) (ho : OwnHE w lo hi (.slice A n c) p) :
    Calls Try.prog 22 #[.agg #[.slice A n c], .int .i64 k] w (MarkedE lo hi n c A p k w) := by
  have hO0 := Lib.hid ho
  have h1 : ∀ o : Obj, Below w.heap.size w (w.alloc o) := fun o => (Below.refl _ _).alloc (Nat.le_refl _) _
  have H1 := Lib.hid h1
  clear ho h1
  go_enter Try.func22, Try.ntmps22
  go_wp2_with fail
  refine (markErrorNodeS_any lo hi n c A p k hn hl hsm hk0 hk _ (hO0.out.below ((H1.out _).mono hh))).mono ?_
  rintro e w1 ⟨rfl, o1, c1⟩
  go_wp2_with fail
  go_ret
  exact ⟨rfl, o1, (Chg.of_below (H1.out _)).trans c1 (fun _ _ h => h)⟩
set_option maxHeartbeats 1000000 in
theorem heldErrorNodeS_any (B n c : Nat) (A : Option Addr) (p : Er) (k : Int) (hn : n ≤ 2000000) (hl : p.length = n) (hsm : SmallE p 2000000) (hk0 : 0 ≤ k) (hk : k + cntE p ≤ 20000000000) (w : World) (hr : RdE w B A (markE k p)) :
    Calls Try.prog 65 #[.slice A n c, .int .i64 k] w fun e w' => e = .returned (.int .i64 (k + cntE p)) ∧ w = w' := by
  have hR := Lib.hid hr
  have hL := Lib.hid hl
  have hS := Lib.hid hsm
  clear hr hl hsm
  go_enter Try.func65, Try.ntmps65
  go_wp2
  go_loop [1, 5] (fun v i => ∃ (j : Nat) (m : Int), j ≤ n ∧ i = .int .i64 j ∧ v = .int .i64 m ∧ 0 ≤ m ∧ m ≤ 20000000000 ∧ Hid (m = k + cntE (p.take j))) (fun _ i => n - (intOf i).toNat)
  case atStart => exact ⟨0, k, Nat.zero_le _, rfl, rfl, hk0, by omega, Lib.hid (by simp [cntE])⟩
  case round =>
    obtain ⟨j, m, hj, rfl, rfl, m0, m1, hM⟩ := hrel
    by_cases hlt : j < n
    · obtain ⟨⟨s0, s1, s2⟩, hs⟩ : ∃ s, p[j]? = some s := ⟨_, List.getElem?_eq_getElem (by rw [hL.out]; exact hlt)⟩
      have hx := markE_at k p j _ hs
      rw [← hM.out] at hx
      obtain ⟨ad, Ai, ci, rfl, hab, h0, h1, h2, h3⟩ := hR.out j _ hx
      have hxn : s2.length ≤ 2000000 := hS.out j _ hs
      have hnx := cntE_next p j _ hs
      have hct := cntE_take p (j + 1)
      have m2 : m + 1 + 1 + s2.length ≤ 20000000000 := by have := hM.out; simp only at hnx; omega
      have hlen : (mkN m s2.length).2.2.length = s2.length := marksI_length _ _
      simp only [mkN] at h0 h1 h2 h3 hlen
      rw [hlen] at h2
      have H3 := Lib.hid h3
      have HN := Lib.hid hnx
      clear hs hx h3 hnx hct hlen
      dsimp only at *
      go_wp2_with fail
      refine (heldIntS_any B s2.length ci Ai (m + 1 + 1) hxn (by omega) (by omega) _ H3.out).mono ?_
      rintro e w1 ⟨rfl, rfl⟩
      have hneg : ¬ m + 1 + 1 + (s2.length : Int) < 0 := by omega
      go_wp2_with fail
      go_round
      case rel => exact ⟨j + 1, m + 1 + 1 + s2.length, by omega, by go_num, rfl, by omega, by omega, Lib.hid (by rw [hM.out, HN.out]; omega)⟩
      case measure => simp [intOf]; omega
    · obtain rfl : j = n := by omega
      have e1 : p.take j = p := List.take_of_length_le (by rw [hL.out]; omega)
      have hfin : Hid (m = k + cntE p) := Lib.hid (by rw [hM.out, e1])
      go_wp2
      go_ret
      exact ⟨by rw [hfin.out]; rfl, rfl⟩
theorem heldErrors_any (B n c : Nat) (A : Option Addr) (p : Er) (k : Int) (hn : n ≤ 2000000) (hl : p.length = n) (hsm : SmallE p 2000000) (hk0 : 0 ≤ k) (hk : k + cntE p ≤ 20000000000) (w : World) (hB : B ≤ w.heap.size) (hr : RdE w B A (markE k p)) :
    Calls Try.prog 37 #[.agg #[.slice A n c], .int .i64 k] w fun e w' => e = .returned (.int .i64 (k + cntE p)) ∧ Below w.heap.size w w' := by
  have hR := Lib.hid hr
  clear hr
  have h1 : ∀ o : Obj, Below w.heap.size w (w.alloc o) := fun o => (Below.refl _ _).alloc (Nat.le_refl _) _
  have H1 := Lib.hid h1
  clear h1
  have hneg : ¬ k + (cntE p : Int) < 0 := by omega
  go_enter Try.func37, Try.ntmps37
  go_wp2_with fail
  refine (heldErrorNodeS_any B n c A p k hn hl hsm hk0 hk _ (hR.out.below ((H1.out _).mono hB))).mono ?_
  rintro e w1 ⟨rfl, rfl⟩
  generalize hz : k + (cntE p : Int) = z at *
  have HZ := Lib.hid hz
  clear hz
  go_wp2_with fail
  go_ret
  exact ⟨by rw [HZ.out]; rfl, H1.out _⟩
end Go.Proofs.Ytkjgibhckcdneaa.ErK
