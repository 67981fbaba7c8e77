/- spec.IsNested. -/
import Derived.Test.YtikdcnlbjpabjaaEnp
import Derived.BigQuiet
namespace Go.Proofs.Ytikdcnlbjpabjaa.EntN
set_option linter.unusedVariables false
set_option linter.unusedSimpArgs false
open Go.ChangeShapes Go.WideShapes Go.ChangeAt Go.RowKit
open Mem IntsP LiP EntP GrwP EntS EntM EntL EntT

set_option maxRecDepth 100000 in
set_option maxHeartbeats 4000000 in
theorem nestS_any (n : Nat) (ad : Addr) (xs : List Int) (hx : FitL xs) (hl : xs.length = n) (hn : n ≤ 2000000) (w : World) (hr : RdI w w.heap.size (some ad) xs) :
    Calls Try.prog 12 #[.slice (some ad) n n] w (BoolR (nestR xs) w) := by
  have HF := Lib.hid (goodS_any w.heap.size (some ad) n n xs hn hl w hr)
  have HL := Lib.hid hl
  have HR := Lib.hid hr
  cases hgd : goodL xs with
  | false =>
    have hs := Lib.hid (nestR_no hgd)
    rw [hgd] at HF
    clear hgd hl hr hx
    go_enter Try.func12, Try.ntmps12
    go_wp2_with fail
    refine HF.out.mono ?_
    rintro e w1 ⟨rfl, rfl⟩
    go_wp2_with fail
    go_ret2
    rw [hs.out]
    exact ⟨rfl, Below.refl _ _⟩
  | true =>
    have hs := Lib.hid (nestR_yes hgd)
    obtain ⟨h60, hgk⟩ := (goodL_iff xs).1 hgd
    rw [hl] at hgk h60
    have HGK := Lib.hid hgk
    rw [hgd] at HF
    clear hgd hl hgk hr hx
    go_enter Try.func12, Try.ntmps12
    go_wp2_with fail
    refine HF.out.mono ?_
    rintro e w1 ⟨rfl, rfl⟩
    go_wp2_with fail
    go_loopw [4] (fun i wr => ∃ (k : Nat), k ≤ n ∧ i = .int .i64 k ∧ noBad xs k = true ∧ Below w.heap.size w wr) (fun i _ => n - (intOf i).toNat)
    case atStart => exact ⟨0, Nat.zero_le _, rfl, rfl, Below.refl _ _⟩
    case round =>
      obtain ⟨k, hk, rfl, hnb, hb⟩ := hrel
      have HNB := Lib.hid hnb
      have HB := Lib.hid hb
      clear hnb hb
      by_cases hlt : k < n
      · obtain ⟨z, hz⟩ : ∃ z, xs[k]? = some z := ⟨_, List.getElem?_eq_getElem (by rw [HL.out]; exact hlt)⟩
        have HZ := Lib.hid hz
        obtain ⟨z1, z2⟩ := HGK.out k z hlt hz
        have hrd := read_any w.heap.size (some ad) k n (xs.take k) (by omega) (by rw [List.length_take, HL.out]; omega) (goodK_take HGK.out hk) wr (rdI_take (HR.out.below HB.out) k) HB.out.size
        rw [openK_self, faultsK_self] at hrd
        have HRd := Lib.hid hrd
        have hsc := Lib.hid (noBad_succ HZ.out)
        clear hz hrd
        go_wp2_with fail
        refine HRd.out.mono ?_
        rintro e w2 ⟨A2, c2, A3, c3, rfl, hT⟩
        have HB2 := Lib.hid (HB.out.trans (hT.b.mono HB.out.size))
        have HRO := Lib.hid hT.rdO
        obtain ⟨ad', had, hab, h0⟩ := (HR.out.below HB2.out) k z HZ.out
        obtain rfl : ad = ad' := by simpa using had
        have lo := openK_len xs k
        clear hT HRd had
        obtain ⟨d, hd⟩ : ∃ d, (openK xs k).length = d := ⟨_, rfl⟩
        have HD := Lib.hid hd
        rw [hd] at lo ⊢
        clear hd
        by_cases hzn : z < 0
        · have hdn : decide (z < 0) = true := decide_eq_true hzn
          cases d with
          | zero =>
            have ho : openK xs k = [] := List.eq_nil_of_length_eq_zero HD.out
            have hbad := Lib.hid (show noBad xs n = false from noBad_le (k := k + 1) (by omega) (by rw [hsc.out, ho, badAt_nil hzn]; simp))
            clear ho
            go_wp2_with fail
            go_quiet (fail)
            go_wp2_with fail
            go_ret2
            rw [hs.out, HL.out, hbad.out]
            exact ⟨by first | (simp; done) | (simp; rfl), below_drewN HB2.out _⟩
          | succ m =>
            obtain ⟨o', y, ho, hom, hy⟩ := snoc_form HD.out
            obtain ⟨a2, had2, hab2, hy0⟩ := HRO.out m y hy
            obtain rfl := had2
            have HO := Lib.hid ho
            have hm0 : ((m : Int) + 1 == 0) = false := by simp; omega
            clear ho hy hom
            by_cases hyz : y = -z
            · have hyz' : (y != -z) = false := by simp [hyz]
              have hok := Lib.hid (show noBad xs (k + 1) = true by rw [hsc.out, HO.out, badAt_snoc hzn, HNB.out]; simp [hyz])
              clear hyz
              go_wp2_with fail
              go_quiet (fail)
              go_wp2_with fail
              go_roundw
              case rel => exact ⟨k + 1, by omega, by go_num, hok.out, below_drewN HB2.out _⟩
              case measure => simp [intOf]; omega
            · have hyz' : (y != -z) = true := by simp [hyz]
              have hbad := Lib.hid (show noBad xs n = false from noBad_le (k := k + 1) (by omega) (by rw [hsc.out, HO.out, badAt_snoc hzn]; simp [hyz]))
              clear hyz
              go_wp2_with fail
              go_quiet (fail)
              go_wp2_with fail
              go_ret2
              rw [hs.out, HL.out, hbad.out]
              exact ⟨by first | (simp; done) | (simp; rfl), below_drewN HB2.out _⟩
        · have hdn : decide (z < 0) = false := decide_eq_false hzn
          have hok := Lib.hid (show noBad xs (k + 1) = true by rw [hsc.out, badAt_pos hzn, HNB.out]; rfl)
          go_wp2_with fail
          go_quiet (fail)
          go_wp2_with fail
          go_roundw
          case rel => exact ⟨k + 1, by omega, by go_num, hok.out, below_drewN HB2.out _⟩
          case measure => simp [intOf]; omega
      · obtain rfl : k = n := by omega
        have HT := Lib.hid (l7Tidy_any k k (some ad) xs HL.out (by omega) HGK.out wr ((HR.out.below HB.out).more HB.out.size))
        go_wp2_with fail
        refine HT.out.mono ?_
        rintro e w2 ⟨rfl, b2⟩
        have B2 := Lib.hid (HB.out.trans (b2.mono HB.out.size))
        clear b2
        go_wp2_with fail
        go_ret2
        rw [hs.out, HL.out, HNB.out]
        exact ⟨by first | (simp; done) | (simp; rfl), B2.out⟩
end Go.Proofs.Ytikdcnlbjpabjaa.EntN
