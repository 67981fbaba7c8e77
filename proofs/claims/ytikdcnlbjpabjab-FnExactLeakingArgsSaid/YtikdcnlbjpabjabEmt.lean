import Derived.Test.YtikdcnlbjpabjabEmu
set_option linter.all false
namespace Go.Proofs.Ytikdcnlbjpabjab.EntT
open Lib (hid)
open Go.ChangeShapes Go.WideShapes Go.ChangeAt Go.RowKit Go.Maps
open Mem IntsP LiP EntP GrwP EntS EntL
def tidyB (xs : List Int) : Bool := decide ((openK xs xs.length).length = 0) && decide ((faultsK xs xs.length).length = 0)
def tidyR (xs : List Int) : Bool × Bool := if goodL xs then (tidyB xs, true) else (false, false)
theorem tidyR_no {xs : List Int} (h : goodL xs = false) : tidyR xs = (false, false) := by unfold tidyR; rw [h]; rfl
theorem tidyR_yes {xs : List Int} (h : goodL xs = true) : tidyR xs = (tidyB xs, true) := by unfold tidyR; rw [h]; rfl
set_option maxRecDepth 100000 in
set_option maxHeartbeats 1000000 in
theorem l7Tidy_any (n c : Nat) (A : Option Addr) (xs : List Int) (hl : xs.length = n) (hn : n ≤ 2000000) (hg : goodK xs n) (w : World) (hr : RdI w w.heap.size A xs) :
  Calls Try.prog 40 #[.slice A n c] w fun e w' => e = .returned (.bool (tidyB xs)) ∧ Below w.heap.size w w' := by
 have HRd := hid (read_any w.heap.size A n c xs hn hl hg w hr (Nat.le_refl _))
 obtain ⟨R, hR⟩ : ∃ R, tidyB xs = R := ⟨_, rfl⟩
 have HRR := hid hR
 rw [hR]
 have lo := openK_len xs n
 have lf := faultsK_len xs n
 have hdef := hid (show R = (decide ((openK xs n).length = 0) && decide ((faultsK xs n).length = 0)) by rw [← hR]; unfold tidyB; rw [hl])
 clear hl hg hr hR
 go_enter Try.func40, Try.ntmps40
 go_wp2_with fail
 refine HRd.out.mono ?_
 rintro e w2 ⟨A2, c2, A3, c3, rfl, hT⟩
 have HB := hid hT.b
 obtain ⟨d, hd⟩ : ∃ d, (openK xs n).length = d := ⟨_, rfl⟩
 obtain ⟨q, hq⟩ : ∃ q, (faultsK xs n).length = q := ⟨_, rfl⟩
 rw [hd, hq] at hdef
 rw [hd] at lo
 rw [hq] at lf
 rw [hd, hq]
 clear hT HRd hd hq
 by_cases h1 : d = 0
 ·by_cases h2 : q = 0
  ·have HT := hid (show R = true by rw [hdef.out, decide_eq_true h1, decide_eq_true h2]; rfl)
   subst h1; subst h2
   go_wp2_with fail
   go_ret
   exact ⟨by rw [HT.out]; rfl, HB.out⟩
  ·have HT := hid (show R = false by rw [hdef.out, decide_eq_true h1, decide_eq_false h2]; rfl)
   subst h1
   have hq0 : ((q : Int) == 0) = false := by simp; omega
   go_wp2_with fail
   go_ret
   exact ⟨by rw [HT.out]; rfl, HB.out⟩
 ·have HT := hid (show R = false by rw [hdef.out, decide_eq_false h1]; rfl)
  have hd0 : ((d : Int) == 0) = false := by simp; omega
  go_wp2_with fail
  go_ret
  exact ⟨by rw [HT.out]; rfl, HB.out⟩
set_option maxRecDepth 100000 in
theorem tidyI_gen (n c : Nat) (A : Option Addr) (xs : List Int) (hl : xs.length = n) (hn : n ≤ 2000000) (w : World) (hr : RdI w w.heap.size A xs) :
  Calls Try.prog 44 #[.slice A n c] w (BoolR (tidyR xs) w) := by
 have HF := hid (goodI_any w.heap.size A n c xs hn hl w hr)
 cases hgd : goodL xs with
 | false =>
  have hs := hid (tidyR_no hgd)
  rw [hgd] at HF
  clear hgd hl hr
  go_enter Try.func44, Try.ntmps44
  go_wp2_with fail
  refine HF.out.mono ?_
  rintro e w1 ⟨rfl, rfl⟩
  go_wp2_with fail
  go_ret2
  rw [hs.out]
  exact ⟨rfl, Below.refl _ _⟩
 | true =>
  obtain ⟨h60, hgk⟩ := (goodL_iff xs).1 hgd
  rw [hl] at hgk h60
  have hs := tidyR_yes hgd
  have htd : tidyB xs = decide ((openK xs n).length = 0 ∧ (faultsK xs n).reverse.length = 0) := by
   unfold tidyB; rw [hl, List.length_reverse]; by_cases h1 : (openK xs n).length = 0 <;> by_cases h2 : (faultsK xs n).length = 0 <;> simp [h1, h2]
  have HU := hid (unt_any n c A xs hl (by omega) hgk w hr)
  rw [hgd] at HF
  obtain ⟨R, hR⟩ : ∃ R, tidyB xs = R := ⟨_, rfl⟩
  rw [hR] at hs htd
  have HS := hid hs
  have HTD := hid htd
  clear hgd hl hgk hr hs htd hR
  go_enter Try.func44, Try.ntmps44
  go_wp2_with fail
  refine HF.out.mono ?_
  rintro e w1 ⟨rfl, rfl⟩
  go_wp2_with fail
  refine HU.out.mono ?_
  rintro e w2 hu
  have hu' := hu
  obtain ⟨v, rfl, b2, hv⟩ := hu'
  have hiff := hu.nil_iff
  have B2 := hid b2
  have hform : v = .nilIface ∨ ∃ T g, v = .iface T (.pointer (some ⟨g, 0, none⟩)) := by
   rcases hv with h | h
   ·rcases h.2.form with h | ⟨g, h⟩
    ·exact .inl h
    ·exact .inr ⟨_, g, h⟩
   ·obtain ⟨_, g, _, _, _, h, _⟩ := h
    exact .inr ⟨_, g, h⟩
  clear hu hv b2 HU HF
  rcases hform with rfl | ⟨T, g, rfl⟩
  ·have h1 := hiff.1 rfl
   have HR := hid (show R = true by rw [HTD.out, h1.1, h1.2]; simp)
   clear h1 hiff
   go_wp2_with fail
   go_ret2
   rw [HS.out, HR.out]
   exact ⟨rfl, B2.out⟩
  ·have h1 : ¬ ((openK xs n) = [] ∧ (faultsK xs n).reverse = []) := fun h => by have := hiff.2 h; cases this
   have HR := hid (show R = false by rw [HTD.out, decide_eq_false_iff_not, List.length_eq_zero_iff, List.length_eq_zero_iff]; exact h1)
   clear h1 hiff
   go_wp2_with fail
   go_ret2
   rw [HS.out, HR.out]
   exact ⟨rfl, B2.out⟩
theorem tidyI_any (n : Nat) (ad : Addr) (xs : List Int) (hx : FitL xs) (hl : xs.length = n) (hn : n ≤ 2000000) (w : World) (hr : RdI w w.heap.size (some ad) xs) :
  Calls Try.prog 44 #[.slice (some ad) n n] w (BoolR (tidyR xs) w) := tidyI_gen n n (some ad) xs hl hn w hr
end Go.Proofs.Ytikdcnlbjpabjab.EntT
-- squeezed
