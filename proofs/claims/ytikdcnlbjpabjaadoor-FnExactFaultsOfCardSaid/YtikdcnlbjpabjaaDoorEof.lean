/- FaultsOf: the specification's and the program's. -/
import Derived.Test.YtikdcnlbjpabjaaDoorEaw
import Derived.Test.YtikdcnlbjpabjaaDoorShelfR
import Derived.Sort.OwnSortedInts
namespace Go.Proofs.YtikdcnlbjpabjaaDoor.EntF
set_option linter.unusedVariables false
set_option linter.unusedSimpArgs false
open Go.ChangeShapes Go.WideShapes Go.ChangeAt Go.RowKit Go.Maps
open Mem IntsP LiP EntP GrwP EntS EntL ErA

def faultR (xs : List Int) : List Int × Bool := if goodL xs then (faultsK xs xs.length, true) else ([], false)
theorem faultR_no {xs : List Int} (h : goodL xs = false) : faultR xs = ([], false) := by unfold faultR; rw [h]; rfl
theorem faultR_yes {xs : List Int} (h : goodL xs = true) : faultR xs = (faultsK xs xs.length, true) := by unfold faultR; rw [h]; rfl
theorem faultR_fits (xs : List Int) : (faultR xs).1.length ≤ 60 := by
  cases h : goodL xs with
  | false => rw [faultR_no h]; exact Nat.zero_le _
  | true =>
    rw [faultR_yes h]
    have := faultsK_len xs xs.length
    have := ((goodL_iff xs).1 h).1
    show (faultsK xs xs.length).length ≤ 60
    omega
theorem reverse_any (lo n c : Nat) (A : Option Addr) (xs : List Int) (hl : xs.length = n) (hn : n ≤ 1000000) (w : World) (ho : w.ownsRow lo 3 1 (.slice A n c) n (cellsI xs)) :
    Calls Tryd.prog 33 #[.slice A n c] w fun e w' => e = .returned (.tuple #[]) ∧ w'.ownsRow lo 3 1 (.slice A n c) n (cellsI xs.reverse) ∧ Chg (fun k => (Value.slice A n c).ownBlock = some k) w w' := by
  rcases ho.2 with ⟨hv, h0⟩ | ⟨g, cap, cur, hv, hg, hh, hnc, hcap, hsz, htake⟩
  · simp only [Value.slice.injEq] at hv
    obtain ⟨rfl, rfl, rfl⟩ := hv
    obtain rfl : xs = [] := List.eq_nil_of_length_eq_zero hl
    refine (Tryd.slices_Reverse_int_empty none 0 w).mono ?_
    rintro e w' ⟨rfl, rfl⟩
    exact ⟨rfl, ho, Chg.refl _ _⟩
  · simp only [Value.slice.injEq, true_and] at hv
    obtain ⟨rfl, rfl⟩ := hv
    subst hl
    have hH := holds_of_blockI (ss := xs) hh (by simpa [cellsI] using htake)
    refine (Tryd.slices_Reverse_int g 0 c xs w hH (by omega)).mono ?_
    rintro e w' ⟨rfl, q, rfl⟩
    have hg0 : ∀ V : World, Go.Sort.grow V #[] = V := fun V => by simp [Go.Sort.grow]
    have h1 := ownsRow_sortedI (n := q) (os := #[]) (ts := xs.reverse) (by simp) hg hh hnc hcap hsz
    have h2 := grownBy_sortedI (w := w) (g := g) (n := q) (os := #[]) xs.reverse.toArray
    rw [hg0] at h1 h2
    exact ⟨rfl, h1, (Chg.of_grown h2).mono (fun k _ hk => hk.symm)⟩
set_option maxRecDepth 100000 in
set_option maxHeartbeats 4000000 in
theorem faultS_any (n : Nat) (ad : Addr) (xs : List Int) (hx : FitL xs) (hl : xs.length = n) (hn : n ≤ 2000000) (w : World) (hr : RdI w w.heap.size (some ad) xs) :
    Calls Tryd.prog 12 #[.slice (some ad) n n] w (IntsR (faultR xs) w) := by
  have HF := Lib.hid (goodS_any w.heap.size (some ad) n n xs hn hl w hr)
  cases hgd : goodL xs with
  | false =>
    have hs := Lib.hid (faultR_no hgd)
    rw [hgd] at HF
    clear hgd hl hr hx
    go_enter Tryd.func12, Tryd.ntmps12
    go_wp2_with fail
    refine HF.out.mono ?_
    rintro e w1 ⟨rfl, rfl⟩
    go_wp2_with fail
    go_ret2
    rw [hs.out]
    exact ⟨_, _, rfl, App.empty_own (heap1_0 w _) (Nat.le_refl _), (Below.refl _ _).alloc (Nat.le_refl _) _⟩
  | true =>
    have hs := Lib.hid (faultR_yes hgd)
    obtain ⟨h60, hgk⟩ := (goodL_iff xs).1 hgd
    rw [hl] at hgk hs
    have HT := Lib.hid (read_any w.heap.size (some ad) n n xs (by omega) hl hgk w hr (Nat.le_refl _))
    rw [hgd] at HF
    clear hgd hl hgk hr hx
    go_enter Tryd.func12, Tryd.ntmps12
    go_wp2_with fail
    refine HF.out.mono ?_
    rintro e w1 ⟨rfl, rfl⟩
    go_wp2_with fail
    refine HT.out.mono ?_
    rintro e w2 ⟨A2, c2, A3, c3, rfl, hT⟩
    have H2 := Lib.hid hT
    clear hT HT HF
    go_wp2_with fail
    go_ret2
    rw [hs.out]
    exact ⟨A3, c3, rfl, H2.out.f, H2.out.b⟩
theorem errOf_cons {w : World} {lo : Nat} {p : Int} {ps : List Int} {v : Value} (h : ErrOf w lo (p :: ps) v) :
    ∃ g vb, lo ≤ g ∧ Blk w g 54 #[.int .i64 p, vb] ∧ Ch w lo ps vb ∧
      (v = .iface 51 (.pointer (some ⟨g, 0, none⟩)) ∨ ∃ g0 x, v = .iface 43 (.pointer (some ⟨g0, 0, none⟩)) ∧ lo ≤ g0 ∧ Blk w g0 50 #[x, .iface 51 (.pointer (some ⟨g, 0, none⟩))]) := by
  rcases h with ⟨g, vb, rfl, hlo, hb, h⟩ | ⟨g0, x, v0, rfl, hlo0, hb0, g, vb, rfl, hlo, hb, h⟩
  · exact ⟨g, vb, hlo, hb, h, .inl rfl⟩
  · exact ⟨g, vb, hlo, hb, h, .inr ⟨g0, x, rfl, hlo0, hb0⟩⟩
theorem asF_at (t : Addr) (old : Value) (g : Nat) (v : Value) (w : World) (hg : w.cell? ⟨0, 0, none⟩ = some (.iface 91 (.agg #[.pointer (some ⟨1, 46, none⟩)]))) (ht : w.cell? t = some old) (hf : w.frozen? t = false)
    (h : v = .iface 51 (.pointer (some ⟨g, 0, none⟩)) ∨ ∃ g0 x, v = .iface 43 (.pointer (some ⟨g0, 0, none⟩)) ∧ Blk w g0 50 #[x, .iface 51 (.pointer (some ⟨g, 0, none⟩))]) :
    Calls Tryd.prog 31 #[v, .iface 52 (.pointer (some t))] w fun ev W' => ev = .returned (.bool true) ∧ Chg (fun k => k = t.block) w W' ∧ W'.cell? t = some (.pointer (some ⟨g, 0, none⟩)) ∧ W'.frozen? t = false := by
  have htl := World.block_lt_of_cell? w t ht
  rcases h with rfl | ⟨g0, x, rfl, hb0⟩
  · exact (asTopF 51 ⟨g, 0, none⟩ t (fun b W' => b = true ∧ Chg (fun k => k = t.block) w W' ∧ W'.cell? t = some (.pointer (some ⟨g, 0, none⟩)) ∧ W'.frozen? t = false) w hg
      (fun W h1 h2 h3 => (asHitZ ⟨g, 0, none⟩ t ⟨w.heap.size, 0, none⟩ old W h3 ((h1.cell htl (fun h => h)).trans ht)
        ((World.frozen?_of_block (h1.block t.block htl (fun h => h))).trans hf)).mono fun ev W' ⟨he, h4, h5⟩ => ⟨true, he, rfl, (h1.mono (D := fun k => k = t.block) (fun _ _ h => h.elim)).trans h4 (fun _ _ h => h), h5⟩)).mono
      fun ev W' ⟨b, he, hb, hw⟩ => ⟨by rw [he, hb], hw⟩
  · exact (asTopF 43 ⟨g0, 0, none⟩ t (fun b W' => b = true ∧ Chg (fun k => k = t.block) w W' ∧ W'.cell? t = some (.pointer (some ⟨g, 0, none⟩)) ∧ W'.frozen? t = false) w hg
      (fun W h1 h2 h3 => (asOpenHit g0 ⟨g, 0, none⟩ t ⟨w.heap.size, 0, none⟩ old W ((hb0.chg h1 (fun h => h)).cells 1) h3 ((h1.cell htl (fun h => h)).trans ht)
        ((World.frozen?_of_block (h1.block t.block htl (fun h => h))).trans hf)).mono fun ev W' ⟨he, h4, h5⟩ => ⟨true, he, rfl, (h1.mono (D := fun k => k = t.block) (fun _ _ h => h.elim)).trans h4 (fun _ _ h => h), h5⟩)).mono
      fun ev W' ⟨b, he, hb, hw⟩ => ⟨by rw [he, hb], hw⟩
set_option maxRecDepth 100000 in
set_option maxHeartbeats 4000000 in
theorem faultI_any (n : Nat) (ad : Addr) (xs : List Int) (hx : FitL xs) (hl : xs.length = n) (hn : n ≤ 2000000) (w : World) (hg : w.cell? ⟨0, 0, none⟩ = some (.iface 91 (.agg #[.pointer (some ⟨1, 46, none⟩)]))) (hr : RdI w w.heap.size (some ad) xs) :
    Calls Tryd.prog 13 #[.slice (some ad) n n] w (IntsR (faultR xs) w) := by
  have HF := Lib.hid (fun W h => goodI_any w.heap.size (some ad) n n xs hn hl W h)
  obtain ⟨i0, hi, hz0, hz1, hz2⟩ := info_parts info3
  cases hgd : goodL xs with
  | false =>
    have hs := Lib.hid (faultR_no hgd)
    have HR := Lib.hid hr
    rw [hgd] at HF
    clear hgd hl hr hx hg
    go_enter Tryd.func13, Tryd.ntmps13
    go_wp2_with fail
    refine (HF.out _ (HR.out.below ((Below.refl _ _).alloc (Nat.le_refl _) _))).mono ?_
    rintro e w1 ⟨rfl, rfl⟩
    go_wp2_with fail
    go_ret2
    rw [hs.out]
    exact ⟨_, _, rfl, App.empty_own (heap1_0 w _) (Nat.le_refl _), (Below.refl _ _).alloc (Nat.le_refl _) _⟩
  | true =>
    have hs := Lib.hid (faultR_yes hgd)
    obtain ⟨h60, hgk⟩ := (goodL_iff xs).1 hgd
    rw [hl] at hgk hs h60
    have HU := Lib.hid (fun W h => unt_any n n (some ad) xs hl (by omega) hgk W h)
    have HG := Lib.hid hg
    have HR := Lib.hid hr
    have g0 : 0 < w.heap.size := World.block_lt_of_cell? w ⟨0, 0, none⟩ hg
    rw [hgd] at HF
    have lf := faultsK_len xs n
    obtain ⟨L, hL⟩ : ∃ L, (faultsK xs n).reverse = L := ⟨_, rfl⟩
    have hLl : L.length ≤ 60 := by rw [← hL, List.length_reverse]; omega
    have HLr := Lib.hid (show faultsK xs n = L.reverse by rw [← hL, List.reverse_reverse])
    rw [hL] at HU
    clear hgd hl hgk hr hx hg hL lf
    obtain ⟨h0, hh0⟩ : ∃ h0, w.heap.size = h0 := ⟨_, rfl⟩
    obtain ⟨w1, hw1⟩ : ∃ w1, w.alloc (.cells #[] 3) = w1 := ⟨_, rfl⟩
    have b1 : Below w.heap.size w w1 := by rw [← hw1]; exact (Below.refl _ _).alloc (Nat.le_refl _) _
    have hb1 : w1.heap[h0]? = some (.cells #[] 3) := by rw [← hw1, ← hh0]; exact heap1_0 w _
    have s1 : h0 < w1.heap.size := by rw [← hw1, ← hh0]; simp
    have HB1 := Lib.hid b1
    have HR1 := Lib.hid (HR.out.below b1)
    have HF1 := Lib.hid (HF.out w1 HR1.out)
    have HU1 := Lib.hid (HU.out w1 (HR1.out.more b1.size))
    have HW1 := Lib.hid hw1
    have HH0 := Lib.hid hh0
    clear HF b1 HU
    go_enter Tryd.func13, Tryd.ntmps13
    go_wp2_with fail
    refine HF1.out.mono ?_
    rintro e wx ⟨rfl, rfl⟩
    go_wp2_with fail
    refine HU1.out.mono ?_
    rintro e w2 ⟨v, rfl, b2, hv⟩
    have HB2 := Lib.hid (HB1.out.trans (b2.mono HB1.out.size))
    have HE := Lib.hid (show ErrOf w2 w1.heap.size L v by
      rcases hv with ⟨_, hch⟩ | ⟨_, g, A, c, vb, rfl, hlo, hbk, _, _, hch⟩
      · exact .inl hch
      · exact .inr ⟨g, _, vb, rfl, hlo, hbk, hch⟩)
    have hb2 : w2.heap[h0]? = some (.cells #[] 3) := (b2.block _ s1).trans hb1
    obtain ⟨lo, hlo⟩ : ∃ lo, w1.heap.size = lo := ⟨_, rfl⟩
    obtain ⟨tb, htb⟩ : ∃ tb, w2.heap.size = tb := ⟨_, rfl⟩
    obtain ⟨w3, hw3⟩ : ∃ w3, w2.alloc (.cells #[.pointer none] 51) = w3 := ⟨_, rfl⟩
    have s2 : lo ≤ tb := by have := b2.size; omega
    have HT3 := Lib.hid (show Blk w3 tb 51 #[.pointer none] by rw [← hw3, ← htb]; exact heap1_0 w2 _)
    have hb3 : w3.heap[h0]? = some (.cells #[] 3) := by rw [← hw3]; exact (Below.heap_alloc w2 _ h0 (by omega)).trans hb2
    have HG0 := Lib.hid (show Grow w2 h0 h0 (.slice (some ⟨h0, 0, none⟩) 0 0) [] w3 from ⟨App.empty_own hb3 (Nat.le_refl _), fun k hk => .inl (by simpa [Value.ownBlock] using hk.symm), by rw [← hw3]; exact Chg.alloc _ _ _⟩)
    have HTB := Lib.hid htb
    rw [hlo] at HE s1
    have HLO := Lib.hid hlo
    clear b2 hv hb1 hb2 hb3 HU1 HF1 HR1 HR hlo
    go_wp2_with fail
    clear htb hw3 hw1
    go_loopg [4, 5] (L.length + 1) (fun k v4 v5 wr => ∃ (ys qs : List Int) (m : Nat) (A : Option Addr) (c : Nat) (old : Option Addr), v4 = .slice A m c ∧ ys.length = m ∧ Grow w2 h0 h0 (.slice A m c) ys wr ∧ (∀ kk, (Value.slice A m c).ownBlock = some kk → kk ≠ tb) ∧ ErrOf w2 lo qs v5 ∧ ys ++ qs = L ∧ qs.length < k ∧ wr.cell? ⟨tb, 0, none⟩ = some (.pointer old) ∧ wr.frozen? ⟨tb, 0, none⟩ = false)
    case atStart => exact ⟨[], L, 0, _, _, none, rfl, rfl, HG0.out, fun kk hk => (by have h9 : h0 = kk := (by simpa [Value.ownBlock] using hk); omega), HE.out, rfl, Nat.lt_succ_self _, HT3.out.cells 0, HT3.out.frozen 0⟩
    case round =>
      obtain ⟨ys, qs, m, A, c, old, rfl, hm, hgr, hne, herr, happ, hk, hc, hf⟩ := hrel
      obtain ⟨k, rfl⟩ : ∃ k, gk = k + 1 := ⟨gk - 1, by omega⟩
      have G := Lib.hid hgr
      have HM := Lib.hid hm
      have HN := Lib.hid hne
      have HAp := Lib.hid happ
      have HEr := Lib.hid herr
      have HBr := Lib.hid (HB2.out.trans (hgr.chg.below HB2.out.size (fun b hb hx => by have := HH0.out; omega)))
      have hgc : wr.cell? ⟨0, 0, none⟩ = some (.iface 91 (.agg #[.pointer (some ⟨1, 46, none⟩)])) := (HBr.out.cell (p := ⟨0, 0, none⟩) g0).trans HG.out
      have hml : m + qs.length = L.length := by rw [← happ, List.length_append, hm]
      have szr := hgr.chg.size
      cases qs with
      | nil =>
        have HA := Lib.hid (asF_no ⟨tb, 0, none⟩ lo _ wr hgc (herr.chg hgr.chg (fun g hg hx => by omega)))
        have hL2 : L = ys := by rw [← happ, List.append_nil]
        clear hgr hne herr happ hc hf hgc
        go_wp2_with fail
        refine HA.out.mono ?_
        rintro e w4 ⟨rfl, c4⟩
        have HB4 := Lib.hid (HBr.out.trans (c4.below HBr.out.size (fun _ _ h => h)))
        have hown := own_chg G.out.own c4 (fun _ _ h => h)
        rw [HM.out] at hown
        have HRv := Lib.hid (reverse_any h0 m c A ys HM.out (by simp at hml; omega) w4 hown)
        clear c4 HA hown
        go_wp2_with fail
        refine HRv.out.mono ?_
        rintro e w5 ⟨rfl, o5, c5⟩
        have HO5 := Lib.hid o5
        have HB5 := Lib.hid (HB4.out.trans (c5.below HB4.out.size (fun b hb hx => by have := (own_lt G.out.own hx).1; have := HH0.out; omega)))
        clear o5 c5
        go_wp2_with fail
        go_ret2
        rw [hs.out, HLr.out, hL2]
        refine ⟨A, c, by simp [HM.out], ?_, HB5.out⟩
        unfold OwnI
        simp only [List.length_reverse, HM.out]
        exact own_mono HO5.out (by have := HH0.out; omega)
      | cons p ps =>
        obtain ⟨g, vb, hlg, hbk, hch, hv⟩ := errOf_cons herr
        have gtb := hbk.lt
        have HV := Lib.hid hv
        have HA := Lib.hid (asF_at ⟨tb, 0, none⟩ (.pointer old) g _ wr hgc hc hf (by
          rcases hv with h | ⟨g0, x, h, hl0, hb0⟩
          · exact .inl h
          · exact .inr ⟨g0, x, h, hb0.chg hgr.chg (by omega)⟩))
        have HBk := Lib.hid hbk
        have HCh := Lib.hid hch
        clear hgr hne herr hc hf hgc hbk hch hv happ
        have hgt : g < tb := by have := HTB.out; omega
        go_wp2_with fail
        refine HA.out.mono ?_
        rintro e w4 ⟨rfl, c4, z4, f4⟩
        have hg4 : Grow w2 h0 h0 (.slice A m c) ys w4 := ⟨own_chg G.out.own c4 (fun kk hk hx => HN.out kk hk hx), G.out.at_, G.out.chg.trans c4 (fun x hx hd => by have hd' : x = tb := hd; have := HTB.out; omega)⟩
        have G4 := Lib.hid hg4
        have hbk4 := (HBk.out.chg G.out.chg (by omega)).chg c4 (by show ¬ g = tb; omega)
        have y0 := hbk4.cells 0
        have HBk4 := Lib.hid hbk4
        have s4 := c4.size
        have hown : w4.ownsRow h0 3 1 (.slice A m c) m (cellsI ys) := by have := hg4.own; rwa [HM.out] at this
        have HOW := Lib.hid hown
        have HZ4 := Lib.hid z4
        have HF4 := Lib.hid f4
        clear c4 hbk4 hg4 hown HA f4
        go_wp2_with (first
          | (at_builtin; refine App.row_list _ rfl (.tmp 17) (.tmp 22) 22 rfl h0 0 3 i0 _ 1 8 Tryd.underlying22 hi hz0 hz1 hz2 rfl (by decide) (.slice A m c) m (cellsI ys) rfl (own_alloc HOW.out _) (.slice (some ⟨w4.heap.size, 0, none⟩) 1 1) 1 [.int .i64 p] rfl (App.one_own (heap1_0 w4 _)) (by intro u hu; simp at hu; rw [hu]; rfl) (by unfold maxLen; omega) (by omega) (by simp; omega) ?_)
          | go_in)
        intro v1 w5 o1 g1 t1
        have hp := G4.out.push (z := p) (v' := v1) (w' := w5) (.cells #[.int .i64 p] 3) rfl (by rw [HM.out]; exact o1) g1 (by simpa using t1)
        have HP := Lib.hid hp
        have c5 : Chg (fun k => (Value.slice A m c).ownBlock = some k) w4 w5 := (Chg.alloc _ w4 _).trans ((Chg.of_grown g1).mono (fun k _ hk => hk.symm)) (fun _ _ h => h)
        have htb4 : tb < w4.heap.size := World.block_lt_of_cell? w4 ⟨tb, 0, none⟩ HZ4.out
        have z5 : w5.cell? ⟨tb, 0, none⟩ = some (.pointer (some ⟨g, 0, none⟩)) := (c5.cell (p := ⟨tb, 0, none⟩) htb4 (fun hx => HN.out _ hx rfl)).trans HZ4.out
        have f5 : w5.frozen? ⟨tb, 0, none⟩ = false := (World.frozen?_of_block (a := ⟨tb, 0, none⟩) (c5.block tb htb4 (fun hx => HN.out _ hx rfl))).trans HF4.out
        have y1 : w5.cell? ⟨g, 1, none⟩ = some vb := ((HBk4.out.chg c5 (fun hx => by have := G4.out.at_ _ hx; have := HTB.out; omega)).cells 1)
        have HNe := Lib.hid (show ∀ kk, v1.ownBlock = some kk → kk ≠ tb from fun kk hk => by
          have ht1 : v1.ownBlock = (Value.slice A m c).ownBlock ∨ v1.ownBlock = some (w4.alloc (.cells #[.int .i64 p] 3)).heap.size := by simpa using t1
          rcases ht1 with h | h
          · exact HN.out kk (h ▸ hk)
          · rw [h] at hk
            have : (w4.alloc (.cells #[.int .i64 p] 3)).heap.size = w4.heap.size + 1 := by simp
            injection hk with hk
            omega)
        have HF5 := Lib.hid f5
        have HZ5 := Lib.hid z5
        obtain ⟨A1, c1, rfl⟩ := own_slice o1
        clear o1 g1 t1 hp c5 f5 z4
        go_wp2_with fail
        go_roundg k
        case measure => simp at hk; omega
        case rel => exact ⟨ys ++ [p], ps, m + 1, A1, c1, _, rfl, by rw [List.length_append, HM.out]; rfl, HP.out, HNe.out, .inl HCh.out, by rw [List.append_assoc]; exact HAp.out, by simp at hk; omega, HZ5.out, HF5.out⟩
end Go.Proofs.YtikdcnlbjpabjaaDoor.EntF
