/- OpenAtEnd: the specification's and the program's. -/
import Derived.Test.YtikdcnlbjpabjaaDoorEat
import Derived.Test.YtikdcnlbjpabjaaDoorEau
namespace Go.Proofs.YtikdcnlbjpabjaaDoor.EntO
set_option linter.unusedVariables false
set_option linter.unusedSimpArgs false
open Go.ChangeShapes Go.WideShapes Go.ChangeAt Go.RowKit Go.Maps
open Mem IntsP LiP EntP GrwP EntS EntL ErA

theorem asL_faults (g t : Addr) (lo : Nat) (ps : List Int) (hps : ps ≠ []) (w : World) (hg : w.cell? ⟨0, 0, none⟩ = some (.iface 91 (.agg #[.pointer (some ⟨1, 46, none⟩)]))) (hc : Ch w lo ps (.iface 51 (.pointer (some g)))) :
    Calls Tryd.prog 31 #[.iface 51 (.pointer (some g)), .iface 48 (.pointer (some t))] w fun e W' => e = .returned (.bool false) ∧ Chg (fun _ => False) w W' :=
  (asTopL 51 g t (fun b W' => b = false ∧ Chg (fun _ => False) w W') w hg
    (fun W h1 h2 h3 => (asFaults _ t ⟨w.heap.size, 0, none⟩ lo ps hps W (hc.chg h1 (fun _ _ h => h))).mono fun e W' ⟨he, h4⟩ => ⟨false, he, rfl, h1.trans h4 (fun _ _ h => h)⟩)).mono
    fun e W' ⟨b, he, hb, hw⟩ => ⟨by rw [he, hb], hw⟩
theorem asL_hit (e t : Addr) (old : Value) (w : World) (hg : w.cell? ⟨0, 0, none⟩ = some (.iface 91 (.agg #[.pointer (some ⟨1, 46, none⟩)]))) (ht : w.cell? t = some old) (hf : w.frozen? t = false) :
    Calls Tryd.prog 31 #[.iface 43 (.pointer (some e)), .iface 48 (.pointer (some t))] w fun ev W' => ev = .returned (.bool true) ∧ Chg (fun k => k = t.block) w W' ∧ W'.cell? t = some (.pointer (some e)) :=
  (asTopL 43 e t (fun b W' => b = true ∧ Chg (fun k => k = t.block) w W' ∧ W'.cell? t = some (.pointer (some e))) w hg
    (fun W h1 h2 h3 => (asHitL e t ⟨w.heap.size, 0, none⟩ old W h3 ((h1.cell (World.block_lt_of_cell? w t ht) (fun h => h)).trans ht)
        ((World.frozen?_of_block (h1.block t.block (World.block_lt_of_cell? w t ht) (fun h => h))).trans hf)).mono fun ev W' ⟨he, h4, h5⟩ => ⟨true, he, rfl, (h1.mono (D := fun k => k = t.block) (fun _ _ h => h.elim)).trans h4 (fun _ _ h => h), h5⟩)).mono
    fun ev W' ⟨b, he, hb, hw⟩ => ⟨by rw [he, hb], hw⟩
def openR (xs : List Int) : List Int × Bool := if goodL xs then (openK xs xs.length, true) else ([], false)
theorem openR_no {xs : List Int} (h : goodL xs = false) : openR xs = ([], false) := by unfold openR; rw [h]; rfl
theorem openR_yes {xs : List Int} (h : goodL xs = true) : openR xs = (openK xs xs.length, true) := by unfold openR; rw [h]; rfl
theorem openR_fits (xs : List Int) : (openR xs).1.length ≤ 60 := by
  cases h : goodL xs with
  | false => rw [openR_no h]; exact Nat.zero_le _
  | true =>
    rw [openR_yes h]
    have := openK_len xs xs.length
    have := ((goodL_iff xs).1 h).1
    show (openK xs xs.length).length ≤ 60
    omega
set_option maxRecDepth 100000 in
set_option maxHeartbeats 4000000 in
theorem openS_any (n : Nat) (ad : Addr) (xs : List Int) (hx : FitL xs) (hl : xs.length = n) (hn : n ≤ 2000000) (w : World) (hr : RdI w w.heap.size (some ad) xs) :
    Calls Tryd.prog 6 #[.slice (some ad) n n] w (IntsR (openR xs) w) := by
  have HF := Lib.hid (goodS_any w.heap.size (some ad) n n xs hn hl w hr)
  cases hgd : goodL xs with
  | false =>
    have hs := Lib.hid (openR_no hgd)
    rw [hgd] at HF
    clear hgd hl hr hx
    go_enter Tryd.func6, Tryd.ntmps6
    go_wp2_with fail
    refine HF.out.mono ?_
    rintro e w1 ⟨rfl, rfl⟩
    go_wp2_with fail
    go_ret2
    rw [hs.out]
    exact ⟨_, _, rfl, App.empty_own (heap1_0 w _) (Nat.le_refl _), (Below.refl _ _).alloc (Nat.le_refl _) _⟩
  | true =>
    have hs := Lib.hid (openR_yes hgd)
    obtain ⟨h60, hgk⟩ := (goodL_iff xs).1 hgd
    rw [hl] at hgk hs
    have HT := Lib.hid (read_any w.heap.size (some ad) n n xs (by omega) hl hgk w hr (Nat.le_refl _))
    rw [hgd] at HF
    clear hgd hl hgk hr hx
    go_enter Tryd.func6, Tryd.ntmps6
    go_wp2_with fail
    refine HF.out.mono ?_
    rintro e w1 ⟨rfl, rfl⟩
    go_wp2_with fail
    refine HT.out.mono ?_
    rintro e w2 ⟨A2, c2, A3, c3, rfl, hT⟩
    have H2 := Lib.hid hT
    clear hT HT HF
    go_wp2_with fail
    go_ret2
    rw [hs.out]
    exact ⟨A2, c2, rfl, H2.out.o, H2.out.b⟩
set_option maxRecDepth 100000 in
set_option maxHeartbeats 4000000 in
theorem openI_any (n : Nat) (ad : Addr) (xs : List Int) (hx : FitL xs) (hl : xs.length = n) (hn : n ≤ 2000000) (w : World) (hg : w.cell? ⟨0, 0, none⟩ = some (.iface 91 (.agg #[.pointer (some ⟨1, 46, none⟩)]))) (hr : RdI w w.heap.size (some ad) xs) :
    Calls Tryd.prog 8 #[.slice (some ad) n n] w (IntsR (openR xs) w) := by
  have HF := Lib.hid (goodI_any w.heap.size (some ad) n n xs hn hl w hr)
  cases hgd : goodL xs with
  | false =>
    have hs := Lib.hid (openR_no hgd)
    rw [hgd] at HF
    clear hgd hl hr hx hg
    go_enter Tryd.func8, Tryd.ntmps8
    go_wp2_with fail
    refine HF.out.mono ?_
    rintro e w1 ⟨rfl, rfl⟩
    go_wp2_with fail
    go_ret2
    rw [hs.out]
    exact ⟨_, _, rfl, App.empty_own (heap1_0 w _) (Nat.le_refl _), (Below.refl _ _).alloc (Nat.le_refl _) _⟩
  | true =>
    have hs := Lib.hid (openR_yes hgd)
    obtain ⟨h60, hgk⟩ := (goodL_iff xs).1 hgd
    rw [hl] at hgk hs h60
    have HU := Lib.hid (fun W h => unt_any n n (some ad) xs hl (by omega) hgk W h)
    have HG := Lib.hid hg
    have HR := Lib.hid hr
    have g0 : 0 < w.heap.size := World.block_lt_of_cell? w ⟨0, 0, none⟩ hg
    rw [hgd] at HF
    clear hgd hl hgk hr hx hg
    go_enter Tryd.func8, Tryd.ntmps8
    go_wp2_with fail
    refine HF.out.mono ?_
    rintro e w1 ⟨rfl, rfl⟩
    obtain ⟨tb, htb⟩ : ∃ tb, w.heap.size = tb := ⟨_, rfl⟩
    obtain ⟨w1, hw1⟩ : ∃ w1, w.alloc (.cells #[.pointer none] 43) = w1 := ⟨_, rfl⟩
    have b1 : Below w.heap.size w w1 := by rw [← hw1]; exact (Below.refl _ _).alloc (Nat.le_refl _) _
    have s1 : tb < w1.heap.size := by rw [← hw1, ← htb]; simp
    have HT1 := Lib.hid (show Blk w1 tb 43 #[.pointer none] by rw [← hw1, ← htb]; exact heap1_0 w _)
    have HB1 := Lib.hid b1
    have HR1 := Lib.hid (HR.out.below b1)
    have HU1 := Lib.hid (HU.out w1 (HR1.out.more b1.size))
    have HTB := Lib.hid htb
    clear HF b1
    go_wp2_with fail
    clear hw1 htb
    refine HU1.out.mono ?_
    rintro e w2 ⟨v, rfl, b2, hv⟩
    have HB2 := Lib.hid (HB1.out.trans (b2.mono HB1.out.size))
    have HT2 := Lib.hid (HT1.out.below b2 s1)
    have hg2 : w2.cell? ⟨0, 0, none⟩ = some (.iface 91 (.agg #[.pointer (some ⟨1, 46, none⟩)])) := (HB2.out.cell (p := ⟨0, 0, none⟩) g0).trans HG.out
    have HG2 := Lib.hid hg2
    clear b2 hg2 HU HU1
    rcases hv with ⟨ho, hch⟩ | ⟨ho, g, A, c, vb, rfl, hlo, hbk, hown, hne, hch⟩
    · have HO := Lib.hid ho
      clear ho
      cases hfs : (faultsK xs n).reverse with
      | nil =>
        rw [hfs] at hch
        obtain rfl : v = .nilIface := hch
        clear hfs
        go_wp2_with fail
        refine (asNilL _ _).mono ?_
        rintro e w3 ⟨rfl, rfl⟩
        go_wp2_with fail
        go_ret2
        rw [hs.out, HO.out]
        exact ⟨_, _, rfl, App.empty_own (heap1_0 _ _) HB2.out.size, HB2.out.alloc HB2.out.size _⟩
      | cons p ps =>
        rw [hfs] at hch
        have HC := Lib.hid hch
        obtain ⟨g, vb, rfl, _, _, _⟩ := hch
        have HA := Lib.hid (asL_faults ⟨g, 0, none⟩ ⟨tb, 0, none⟩ w1.heap.size (p :: ps) (by simp) w2 HG2.out HC.out)
        clear hfs
        go_wp2_with fail
        refine HA.out.mono ?_
        rintro e w3 ⟨rfl, h3⟩
        have HB3 := Lib.hid (HB2.out.trans (h3.below HB2.out.size (fun _ _ h => h)))
        clear h3 HA
        go_wp2_with fail
        go_ret2
        rw [hs.out, HO.out]
        exact ⟨_, _, rfl, App.empty_own (heap1_0 _ _) HB3.out.size, HB3.out.alloc HB3.out.size _⟩
    · have HA := Lib.hid (asL_hit ⟨g, 0, none⟩ ⟨tb, 0, none⟩ (.pointer none) w2 HG2.out (HT2.out.cells 0) (HT2.out.frozen 0))
      have s2 := HT2.out.lt
      have HBk := Lib.hid hbk
      have HOw := Lib.hid hown
      clear hbk hown hch hne ho
      go_wp2_with fail
      refine HA.out.mono ?_
      rintro e w3 ⟨rfl, h3, z3⟩
      have hbk3 := HBk.out.chg h3 (by show ¬ g = tb; omega)
      have y0 := hbk3.cells 0
      have HB3 := Lib.hid (HB2.out.trans (h3.below HB2.out.size (fun k hk hc => by have := HTB.out; have hc' : k = tb := hc; omega)))
      have HO3 := Lib.hid (own_chg HOw.out h3 (fun k hk hc => by have := (own_lt HOw.out hk).1; have hc' : k = tb := hc; omega))
      clear h3 HA hbk3
      go_wp2_with fail
      go_ret2
      rw [hs.out]
      exact ⟨A, c, rfl, own_mono HO3.out (by have := HTB.out; omega), HB3.out⟩
end Go.Proofs.YtikdcnlbjpabjaaDoor.EntO
