/- impl.MendEntries. -/
import Derived.Test.YtikdcnlbjpabjaaEdk
namespace Go.Proofs.Ytikdcnlbjpabjaa.EdM
set_option linter.unusedVariables false
set_option linter.unusedSimpArgs false
open Go.ChangeShapes Go.WideShapes Go.ChangeAt Go.RowKit Go.Maps
open Mem IntsP LiP EntP GrwP EntS EntL EdP

set_option maxRecDepth 100000 in
set_option maxHeartbeats 4000000 in
theorem mendI_any (n : Nat) (ad : Addr) (xs : List Int) (hx : FitL xs) (hl : xs.length = n) (hn : n ≤ 2000000) (w : World) (hr : RdI w w.heap.size (some ad) xs) :
    Calls Try.prog 23 #[.slice (some ad) n n] w (IntsR (mendR xs) w) := by
  have HL := Lib.hid hl
  have HR := Lib.hid hr
  have HF := Lib.hid (goodI_any w.heap.size (some ad) n n xs hn hl w hr)
  cases hgd : goodL xs with
  | false =>
    have hs := Lib.hid (mendR_no hgd)
    rw [hgd] at HF
    clear hgd hl hr hx
    go_enter Try.func23, Try.ntmps23
    go_wp2_with fail
    refine HF.out.mono ?_
    rintro e w1 ⟨rfl, rfl⟩
    go_wp2_with fail
    go_ret2
    rw [hs.out]
    exact ⟨_, _, rfl, App.empty_own (heap1_0 w _) (Nat.le_refl _), (Below.refl _ _).alloc (Nat.le_refl _) _⟩
  | true =>
    have hyes := Lib.hid (fun h => mendR_yes hgd h)
    have hno := Lib.hid (fun h => mendR_long (xs := xs) h)
    obtain ⟨h60, hgk⟩ := (goodL_iff xs).1 hgd
    rw [hl] at hgk h60
    have HGK := Lib.hid hgk
    have hme := Lib.hid (mendL_eq xs)
    have hml := mendL_len xs
    rw [hl] at hme hml
    rw [hgd] at HF
    clear hgd hl hr hx hgk
    go_enter Try.func23, Try.ntmps23
    go_wp2_with fail
    refine HF.out.mono ?_
    rintro e w0 ⟨rfl, rfl⟩
    go_wp2_with fail
    refine (new_any _).mono ?_
    rintro e w1 ⟨b, rfl, hb0, hled, hbl⟩
    go_wp2_with fail
    have lb := hled.lt
    obtain ⟨k0, hk0⟩ : ∃ k0, w1.heap.size = k0 := ⟨_, rfl⟩
    obtain ⟨w2, hw2⟩ : ∃ w2, (w1.alloc (.cells #[] 3)).alloc (.cells #[.map (some b), .slice (some ⟨w1.heap.size, 0, none⟩) 0 0] 55) = w2 := ⟨_, rfl⟩
    have b12 : Below w1.heap.size w1 w2 := by rw [← hw2]; exact ((Below.refl _ _).alloc (Nat.le_refl _) _).alloc (by simp) _
    have hmm : MendM w.heap.size (w1.heap.size + 1) b ([], []) w2 := by
      refine ⟨⟨some ⟨w1.heap.size, 0, none⟩, 0, 0, by rw [← hw2]; exact heap2_1 w1 _ _, rfl, by rw [← hw2]; exact App.empty_own (heap2_0 w1 _ _) hbl.size, fun k hk => ?_⟩, hled.below b12, by have := hbl.size; omega, hb0, by omega, Nat.le_trans hbl.size b12.size⟩
      simp [Value.ownBlock] at hk
      omega
    have HB2 := Lib.hid (hbl.trans (b12.mono hbl.size))
    have HMm := Lib.hid hmm
    rw [hw2]
    rw [hk0] at HMm ⊢
    clear hw2 hk0 hled hbl b12 hmm
    have HKA := Lib.hid (keepAll_any w.heap.size (k0 + 1) b n n (some ad) xs HL.out (by omega) HGK.out w2 HMm.out (HR.out.below HB2.out))
    generalize hg : k0 + 1 = g at *
    go_wp2_with fail
    refine HKA.out.mono ?_
    rintro e w3 ⟨rfl, hm3, b3⟩
    rw [hme.out] at hm3
    have HB3 := Lib.hid (HB2.out.trans b3)
    obtain ⟨A, m, c, hblk, hm, hown, _⟩ := hm3.ex
    dsimp only at hm hown
    have y1 : w3.cell? ⟨g, 1, none⟩ = some (.slice A m c) := hblk.cells 1
    have HO := Lib.hid hown
    have Hm := Lib.hid hm
    rw [hm] at hml hyes hno
    clear hm3 b3 hblk hm hown HKA HMm HB2
    by_cases hmm : m ≤ 60
    · have hs := Lib.hid (hyes.out hmm)
      go_wp2_with fail
      go_ret2
      rw [hs.out]
      exact ⟨A, c, by rw [Hm.out]; rfl, by unfold OwnI; rw [Hm.out]; exact HO.out, HB3.out⟩
    · have hs := Lib.hid (hno.out (by omega))
      go_wp2_with fail
      go_ret2
      rw [hs.out]
      exact ⟨_, _, rfl, App.empty_own (heap1_0 w3 _) HB3.out.size, HB3.out.alloc HB3.out.size _⟩
end Go.Proofs.Ytikdcnlbjpabjaa.EdM
