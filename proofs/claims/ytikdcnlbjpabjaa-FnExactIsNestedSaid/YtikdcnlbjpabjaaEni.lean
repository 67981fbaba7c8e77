/- impl.IsNested. -/
import Derived.Test.YtikdcnlbjpabjaaEnp
import Derived.BigQuiet
namespace Go.Proofs.Ytikdcnlbjpabjaa.EntN
set_option linter.unusedVariables false
set_option linter.unusedSimpArgs false
open Go.ChangeShapes Go.WideShapes Go.ChangeAt Go.RowKit
open Mem IntsP LiP EntP GrwP EntS EntM EntL EntT

theorem own_shrink {w : World} {B e sz n m c : Nat} {A : Option Addr} {xs : List Value} (h : w.ownsRow B e sz (.slice A n c) n xs) (hm : m ≤ n) : w.ownsRow B e sz (.slice A m c) m (xs.take (m * sz)) := by
  have hms : m * sz ≤ n * sz := Nat.mul_le_mul_right sz hm
  rcases h.2 with ⟨hv, rfl⟩ | ⟨g, cap, cur, hv, hB, hg, hnc, hcm, hcs, ht⟩
  · simp only [Value.slice.injEq] at hv
    obtain ⟨rfl, _, rfl⟩ := hv
    obtain rfl : m = 0 := by omega
    exact ⟨by simp, .inl ⟨rfl, rfl⟩⟩
  · simp only [Value.slice.injEq, true_and] at hv
    obtain ⟨rfl, rfl⟩ := hv
    refine ⟨by rw [List.length_take, h.1]; omega, .inr ⟨g, c, cur, rfl, hB, hg, by omega, hcm, hcs, ?_⟩⟩
    rw [← ht, List.take_take, Nat.min_eq_left hms]
theorem own_cap {w : World} {B e sz n c : Nat} {A : Option Addr} {xs : List Value} (h : w.ownsRow B e sz (.slice A n c) n xs) (h0 : 0 < n) : n ≤ c := by
  rcases h.2 with ⟨hv, rfl⟩ | ⟨g, cap, cur, hv, hB, hg, hnc, hcm, hcs, ht⟩
  · omega
  · simp only [Value.slice.injEq, true_and] at hv
    obtain ⟨rfl, rfl⟩ := hv
    exact hnc
theorem own_front {w : World} {B m c : Nat} {A : Option Addr} {o : List Int} {y : Int} (h : w.ownsRow B 3 1 (.slice A (m + 1) c) (m + 1) (cellsI (o ++ [y]))) (hm : o.length = m) : w.ownsRow B 3 1 (.slice A m c) m (cellsI o) := by
  have := own_shrink h (Nat.le_succ m)
  rwa [cellsI_append, Nat.mul_one, List.take_append_of_le_length (by rw [cellsI_length]; omega), List.take_of_length_le (by rw [cellsI_length]; omega)] at this
set_option maxRecDepth 100000 in
set_option maxHeartbeats 4000000 in
theorem closes_any (n c : Nat) (ad : Addr) (xs : List Int) (hl : xs.length = n) (hn : n ≤ 60) (hg : goodK xs n) (hnf : faultsK xs n = []) (w : World) (hr : RdI w w.heap.size (some ad) xs) :
    Calls Try.prog 30 #[.slice (some ad) n c] w fun e w' => e = .returned (.bool (noBad xs n)) ∧ Below w.heap.size w w' := by
  have HL := Lib.hid hl
  have HR := Lib.hid hr
  have HGK := Lib.hid hg
  have HNF := Lib.hid hnf
  obtain ⟨R, hR⟩ : ∃ R, noBad xs n = R := ⟨_, rfl⟩
  have HRR := Lib.hid hR
  rw [hR]
  obtain ⟨i0, hi, hz0, hz1, hz2⟩ := info_parts info3
  clear hl hg hr hnf hR
  go_enter Try.func30, Try.ntmps30
  go_wp2_with fail
  obtain ⟨w1, hw1⟩ : ∃ w1, w.alloc (.cells #[] 3) = w1 := ⟨_, rfl⟩
  have HB1 := Lib.hid (show Below w.heap.size w w1 by rw [← hw1]; exact (Below.refl _ _).alloc (Nat.le_refl _) _)
  have HO1 := Lib.hid (show w1.ownsRow w.heap.size 3 1 (.slice (some ⟨w.heap.size, 0, none⟩) 0 0) 0 (cellsI []) by rw [← hw1]; exact App.empty_own (heap1_0 w _) (Nat.le_refl _))
  rw [hw1]
  clear hw1
  generalize hlo : w.heap.size = lo at *
  go_loopw [3, 10] (fun v i wr => ∃ (k m : Nat) (A : Option Addr) (c' : Nat), k ≤ n ∧ i = .int .i64 k ∧ v = .slice A m c' ∧ m ≤ k ∧ (openK xs k).length = m ∧ wr.ownsRow lo 3 1 (.slice A m c') m (cellsI (openK xs k)) ∧ noBad xs k = true ∧ Below lo w wr) (fun _ i _ => n - (intOf i).toNat)
  case atStart => exact ⟨0, 0, _, _, Nat.zero_le _, rfl, rfl, Nat.le_refl _, by rw [openK_zero]; rfl, by rw [openK_zero]; exact HO1.out, rfl, HB1.out⟩
  case round =>
    obtain ⟨k, m, A, c', hk, rfl, rfl, hmk, hlen, how, hnb, hb⟩ := hrel
    have HO := Lib.hid how
    have HNB := Lib.hid hnb
    have HB := Lib.hid hb
    have HM := Lib.hid hlen
    have szr := hb.size
    clear how hnb hb hlen
    by_cases hlt : k < n
    · obtain ⟨z, hz⟩ : ∃ z, xs[k]? = some z := ⟨_, List.getElem?_eq_getElem (by rw [HL.out]; exact hlt)⟩
      have HZ := Lib.hid hz
      obtain ⟨z1, z2⟩ := HGK.out k z hlt hz
      obtain ⟨ad', had, hab, h0⟩ := (HR.out.below HB.out) k z hz
      obtain rfl : ad = ad' := by simpa using had
      have hsc := Lib.hid (noBad_succ hz)
      have hnf := Lib.hid (not_fault HNF.out hlt hz)
      clear hz had
      rcases Int.lt_trichotomy z 0 with hs | hs | hs
      · have hmem := open_down_mem hs hnf.out
        cases m with
        | zero => rw [List.eq_nil_of_length_eq_zero HM.out] at hmem; simp at hmem
        | succ m =>
          obtain ⟨o', y, ho, hom, hy⟩ := snoc_form HM.out
          obtain ⟨a2, had2, hab2, hy0⟩ := rdI_own HO.out m y hy
          obtain rfl := had2
          have HOo := Lib.hid ho
          have HOm := Lib.hid hom
          have hcp := own_cap HO.out (Nat.succ_pos _)
          clear ho hy hom hmem
          by_cases hyz : y = -z
          · have hyz' : (y != -z) = false := by simp [hyz]
            have hok := Lib.hid (show noBad xs (k + 1) = true by rw [hsc.out, HOo.out, badAt_snoc hs, HNB.out]; simp [hyz])
            have hop := Lib.hid (open_down HZ.out hs (o := o') (by rw [HOo.out, hyz]))
            have hfr := Lib.hid (own_front (o := o') (y := y) (by rw [← HOo.out]; exact HO.out) HOm.out)
            clear hyz
            go_wp2_with fail
            go_roundw
            case rel => exact ⟨k + 1, m, _, _, by omega, by go_num, rfl, by omega, by rw [hop.out]; exact HOm.out, by rw [hop.out]; exact hfr.out, hok.out, HB.out⟩
            case measure => simp [intOf]; omega
          · have hyz' : (y != -z) = true := by simp [hyz]
            have hbad := Lib.hid (show R = false by rw [← HRR.out]; exact noBad_le (k := k + 1) (by omega) (by rw [hsc.out, HOo.out, badAt_snoc hs]; simp [hyz]))
            clear hyz
            go_wp2_with fail
            go_ret
            exact ⟨by rw [hbad.out]; rfl, by rw [hlo]; exact HB.out⟩
      · have hok := Lib.hid (show noBad xs (k + 1) = true by rw [hsc.out, badAt_pos (by omega), HNB.out]; rfl)
        have hop := Lib.hid (show openK xs (k + 1) = openK xs k by rw [openK_succ HZ.out, hs, stepO_zero])
        have hs1 : decide ((0 : Int) < z) = false := by rw [hs]; rfl
        have hs2 : decide (z < 0) = false := by rw [hs]; rfl
        go_wp2_with fail
        go_roundw
        case rel => exact ⟨k + 1, m, _, _, by omega, by go_num, rfl, by omega, by rw [hop.out]; exact HM.out, by rw [hop.out]; exact HO.out, hok.out, HB.out⟩
        case measure => simp [intOf]; omega
      · have hok := Lib.hid (show noBad xs (k + 1) = true by rw [hsc.out, badAt_pos (by omega), HNB.out]; rfl)
        have hop := Lib.hid (open_up HZ.out hs hnf.out)
        go_wp2_with (first
          | (at_builtin; refine App.row_list _ rfl (.tmp 20) (.tmp 22) 22 rfl lo 0 3 i0 _ 1 8 Try.underlying22 hi hz0 hz1 hz2 rfl (by decide) (.slice A m c') m (cellsI (openK xs k)) rfl (own_alloc HO.out _) (.slice (some ⟨wr.heap.size, 0, none⟩) 1 1) 1 [.int .i64 z] rfl (App.one_own (heap1_0 wr _)) (by intro u hu; simp at hu; rw [hu]; rfl) (by unfold maxLen; omega) (by omega) (by simp; omega) ?_)
          | go_in)
        intro v2 w2 o2 g2 t2
        have HB2 := Lib.hid ((HB.out.alloc (by omega) (.cells #[.int .i64 z] 3)).trans ((Chg.of_grown g2).below (by simp; omega) (fun x hx hc => by have := (own_lt HO.out hc.symm).1; omega)))
        have HO2 := Lib.hid (show w2.ownsRow lo 3 1 v2 (m + 1) (cellsI (openK xs (k + 1))) by rw [hop.out, cellsI_append]; exact o2)
        have HM2 := Lib.hid (show (openK xs (k + 1)).length = m + 1 by rw [hop.out, List.length_append, HM.out]; rfl)
        obtain ⟨A2, c2, rfl⟩ := own_slice o2
        clear o2 g2 t2
        go_wp2_with fail
        go_roundw
        case rel => exact ⟨k + 1, m + 1, A2, c2, by omega, by go_num, rfl, by omega, HM2.out, HO2.out, hok.out, HB2.out⟩
        case measure => simp [intOf]; omega
    · obtain rfl : k = n := by omega
      go_wp2_with fail
      go_ret
      exact ⟨by rw [← HRR.out, HNB.out]; rfl, by rw [hlo]; exact HB.out⟩
set_option maxRecDepth 100000 in
set_option maxHeartbeats 1000000 in
theorem nestI_any (n : Nat) (ad : Addr) (xs : List Int) (hx : FitL xs) (hl : xs.length = n) (hn : n ≤ 2000000) (w : World) (hr : RdI w w.heap.size (some ad) xs) :
    Calls Try.prog 13 #[.slice (some ad) n n] w (BoolR (nestR xs) w) := by
  have HT := Lib.hid (tidyI_gen n n (some ad) xs hl hn w hr)
  have HR := Lib.hid hr
  obtain ⟨q, hq⟩ : ∃ q, tidyR xs = q := ⟨_, rfl⟩
  rw [hq] at HT
  have hq' := hq
  obtain ⟨t, g⟩ := q
  cases hgd : goodL xs with
  | false =>
    rw [tidyR_no hgd] at hq
    injection hq with h1 h2
    subst h1; subst h2
    have hs := Lib.hid (nestR_no hgd)
    clear hgd hl hr hx hq'
    go_enter Try.func13, Try.ntmps13
    go_wp2_with fail
    refine HT.out.mono ?_
    rintro e w1 ⟨rfl, b1⟩
    have B1 := Lib.hid b1
    clear b1
    go_wp2_with fail
    go_ret2
    rw [hs.out]
    exact ⟨rfl, B1.out⟩
  | true =>
    rw [tidyR_yes hgd] at hq
    injection hq with h1 h2
    subst h2
    obtain ⟨h60, hgk⟩ := (goodL_iff xs).1 hgd
    rw [hl] at hgk h60
    have hs := nestR_yes hgd
    rw [h1] at hs
    cases t with
    | false =>
      have HS := Lib.hid (show nestR xs = (false, true) by rw [hs]; rfl)
      clear hgd hl hr hx hq' hs h1 hgk
      go_enter Try.func13, Try.ntmps13
      go_wp2_with fail
      refine HT.out.mono ?_
      rintro e w1 ⟨rfl, b1⟩
      have B1 := Lib.hid b1
      clear b1
      go_wp2_with fail
      go_ret2
      rw [HS.out]
      exact ⟨rfl, B1.out⟩
    | true =>
      have hnf : faultsK xs n = [] := by
        unfold tidyB at h1
        rw [hl, Bool.and_eq_true, decide_eq_true_eq, decide_eq_true_eq] at h1
        exact List.eq_nil_of_length_eq_zero h1.2
      have HS := Lib.hid (show nestR xs = (noBad xs n, true) by rw [hs, hl]; simp)
      have HC := Lib.hid (fun W (b : Below w.heap.size w W) => closes_any n n ad xs hl h60 hgk hnf W ((HR.out.below b).more b.size))
      obtain ⟨R, hR⟩ : ∃ R, noBad xs n = R := ⟨_, rfl⟩
      rw [hR] at HS HC
      clear hgd hl hr hx hq' hs h1 hgk hnf hR
      go_enter Try.func13, Try.ntmps13
      go_wp2_with fail
      refine HT.out.mono ?_
      rintro e w1 ⟨rfl, b1⟩
      have B1 := Lib.hid b1
      clear b1
      go_wp2_with fail
      refine (HC.out _ B1.out).mono ?_
      rintro e w2 ⟨rfl, b2⟩
      have B2 := Lib.hid (B1.out.trans (b2.mono B1.out.size))
      clear b2
      go_wp2_with fail
      go_ret2
      rw [HS.out]
      exact ⟨rfl, B2.out⟩
end Go.Proofs.Ytikdcnlbjpabjaa.EntN
