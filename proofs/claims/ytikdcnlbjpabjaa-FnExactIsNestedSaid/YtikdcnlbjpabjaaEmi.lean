/- impl.MostOpen returns the greatest number of resources that are open at once. -/
import Derived.Test.YtikdcnlbjpabjaaEml
import Derived.Test.YtikdcnlbjpabjaaEms
namespace Go.Proofs.Ytikdcnlbjpabjaa.EntM
set_option linter.unusedVariables false
set_option linter.unusedSimpArgs false
open Go.ChangeShapes Go.WideShapes Go.ChangeAt Go.RowKit Go.Maps
open Mem IntsP LiP EntP GrwP EntS EntL

theorem rdI_chg {C : Nat → Prop} {w w' : World} {B : Nat} {A : Option Addr} {xs : List Int} (h : RdI w B A xs) (hc : Chg C w w') (hB : B ≤ w.heap.size) (hC : ∀ b, b < B → ¬ C b) : RdI w' B A xs :=
  h.keep fun p hp => hc.cell (by omega) (hC _ hp)
set_option maxRecDepth 100000 in
set_option maxHeartbeats 2000000 in
theorem mostI_any (n : Nat) (ad : Addr) (xs : List Int) (hx : FitL xs) (hl : xs.length = n) (hn : n ≤ 2000000) (w : World) (hr : RdI w w.heap.size (some ad) xs) :
    Calls Try.prog 15 #[.slice (some ad) n n] w (NumR (mostR xs) w) := by
  have HL := Lib.hid hl
  have HR := Lib.hid hr
  have HF := Lib.hid (goodI_any w.heap.size (some ad) n n xs hn hl w hr)
  clear hr hx
  cases hgd : goodL xs with
  | false =>
    have hs := Lib.hid (mostR_no hgd)
    rw [hgd] at HF
    clear hgd hl
    go_enter Try.func15, Try.ntmps15
    go_wp2_with fail
    refine HF.out.mono ?_
    rintro e w1 ⟨rfl, rfl⟩
    go_wp2_with fail
    go_ret2
    rw [hs.out]
    exact ⟨rfl, Below.refl _ _⟩
  | true =>
    have hs := Lib.hid (mostR_yes hgd)
    obtain ⟨h60, hgk⟩ := (goodL_iff xs).1 hgd
    rw [hl] at h60 hgk
    have HGK := Lib.hid hgk
    rw [hgd] at HF
    clear hgd hl hgk
    go_enter Try.func15, Try.ntmps15
    go_wp2_with fail
    refine HF.out.mono ?_
    rintro e w1 ⟨rfl, rfl⟩
    go_wp2_with fail
    refine (new_any _).mono ?_
    rintro e w1 ⟨b, rfl, hb0, hled, hbl⟩
    go_wp2_with fail
    obtain ⟨bx, hbx⟩ : ∃ bx, w1.heap.size = bx := ⟨_, rfl⟩
    obtain ⟨w2, hw2⟩ : ∃ w2, w1.alloc (.cells #[.map (some b)] 46) = w2 := ⟨_, rfl⟩
    have lb : b < bx := by rw [← hbx]; exact hled.lt
    have HX := Lib.hid (show Blk w2 bx 46 #[.map (some b)] by rw [← hw2, ← hbx]; exact heap1_0 _ _)
    have b12 : Below w1.heap.size w1 w2 := by rw [← hw2]; exact (Below.refl _ _).alloc (Nat.le_refl _) _
    have HLed := Lib.hid (hled.below b12)
    have HB2 := Lib.hid (hbl.trans (b12.mono hbl.size))
    have HR2 := Lib.hid (HR.out.below HB2.out)
    have s2 : bx < w2.heap.size := HX.out.lt
    have s0 : w.heap.size ≤ bx := by have := hbl.size; omega
    rw [hw2, hbx]
    clear hw2 hbx hled hbl b12 HR HF
    go_loopw [4, 14] (fun v i wr => ∃ (k q : Nat), k ≤ n ∧ i = .int .i64 k ∧ v = .int .i64 q ∧ q = mostK xs (k + 1) ∧ Led wr b (openK xs k) k ∧ Chg (fun j => j = b) w2 wr) (fun _ i _ => n - (intOf i).toNat)
    case atStart => exact ⟨0, 0, Nat.zero_le _, rfl, rfl, by simp [mostK, openK_zero], by rw [openK_zero]; exact HLed.out, Chg.refl _ _⟩
    case round =>
      obtain ⟨k, q, hk, rfl, rfl, hq, hled, hc⟩ := hrel
      have HQ := Lib.hid hq
      have HD := Lib.hid hled
      have HC := Lib.hid hc
      have lq : q ≤ k + 1 := by rw [hq]; exact mostK_le xs _
      have szr := hc.size
      have zx : wr.cell? ⟨bx, 0, none⟩ = some (.map (some b)) := (HX.out.chg hc (by omega)).cells 0
      have HRr := Lib.hid (rdI_chg HR2.out hc (by omega) (fun j hj => by omega))
      clear hq hled hc
      by_cases hlt : k < n
      · obtain ⟨z, hz⟩ : ∃ z, xs[k]? = some z := ⟨_, List.getElem?_eq_getElem (by rw [HL.out]; exact hlt)⟩
        obtain ⟨ad', had, hab, h0⟩ := HRr.out k z hz
        obtain rfl : ad = ad' := by simpa using had
        have HZ := Lib.hid hz
        have HE := Lib.hid (enter_any b (openK xs k) k z (HGK.out k z hlt hz) (by omega) wr HD.out)
        clear hz had
        go_wp2_with fail
        refine HE.out.mono ?_
        rintro e w3 ⟨rfl, hl3, hc3⟩
        rw [← openK_succ HZ.out] at hl3
        have HL3 := Lib.hid hl3
        have HC3 := Lib.hid (HC.out.trans hc3 (fun x _ h => h))
        have zx3 : w3.cell? ⟨bx, 0, none⟩ = some (.map (some b)) := (hc3.cell (p := ⟨bx, 0, none⟩) (by show bx < wr.heap.size; omega) (by show ¬ bx = b; omega)).trans zx
        obtain ⟨D, nd, hown, hnd, hmo⟩ := hl3
        have hsz := hmo.size_
        have lsz := openK_len xs (k + 1)
        have hmk : mostK xs (k + 1 + 1) = max q (openK xs (k + 1)).length := by rw [HQ.out]; rfl
        have HMO := Lib.hid (show ((mostK xs (k + 1 + 1) : Nat) : Int) = max (q : Int) ((Maps.size D : Nat) : Int) by rw [hmk, hsz]; omega)
        have lm := mostK_le xs (k + 1 + 1)
        have lsz2 : Maps.size D ≤ k + 1 := by omega
        clear hmk zx h0 hmo hc3 HE HD lsz hsz
        generalize hS : Maps.size D = S at *
        go_wp2_with (first
          | (at_len; refine wpList_len_own _ rfl _ 44 rfl 3 3 Try.underlying44 _ b nd D rfl hown ?_; rw [hS])
          | go_in)
        refine ⟨⟨k + 1, mostK xs (k + 1 + 1), by omega, by go_num, ?_, rfl, HL3.out, HC3.out⟩, by simp [intOf]; omega⟩
        rw [HMO.out]
        congr 1
        split <;> omega
      · obtain rfl : k = n := by omega
        go_wp2_with fail
        go_ret2
        rw [hs.out, HL.out, ← HQ.out]
        exact ⟨rfl, HB2.out.trans (HC.out.below (by omega) (fun j hj => by omega))⟩
end Go.Proofs.Ytikdcnlbjpabjaa.EntM
