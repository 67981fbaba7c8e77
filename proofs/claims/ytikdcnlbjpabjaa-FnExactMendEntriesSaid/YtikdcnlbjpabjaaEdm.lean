/- keep: an entry is kept, and the ledger tells it. -/
import Derived.Test.YtikdcnlbjpabjaaEdp
import Derived.BigQuiet
import Derived.Defers
import Derived.Deep.RegionHeld3
namespace Go.Proofs.Ytikdcnlbjpabjaa.EdM
set_option linter.unusedVariables false
set_option linter.unusedSimpArgs false
open Go.ChangeShapes Go.WideShapes Go.ChangeAt Go.RowKit Go.Maps
open Mem IntsP LiP EntP GrwP EntS EntL EdP

/-- What mending holds: the ledger's map, the entries kept. -/
structure MendM (lo g b : Nat) (s : List Int × List Int) (W : World) : Prop where
  ex : ∃ A m c, Blk W g 55 #[.map (some b), .slice A m c] ∧ s.2.length = m ∧ W.ownsRow lo 3 1 (.slice A m c) m (cellsI s.2) ∧ (∀ k, (Value.slice A m c).ownBlock = some k → k ≠ g ∧ k ≠ b)
  led : Led W b s.1 s.2.length
  ord : lo ≤ g ∧ lo ≤ b ∧ g ≠ b ∧ lo ≤ W.heap.size
theorem MendM.below {lo g b : Nat} {s : List Int × List Int} {W W' : World} (h : MendM lo g b s W) (hb : Below W.heap.size W W') : MendM lo g b s W' := by
  obtain ⟨A, m, c, h1, h2, h3, h4⟩ := h.ex
  exact ⟨⟨A, m, c, h1.below hb h1.lt, h2, own_below h3 hb (Nat.le_refl _), h4⟩, h.led.below hb, h.ord.1, h.ord.2.1, h.ord.2.2.1, Nat.le_trans h.ord.2.2.2 hb.size⟩
def KeepR (lo g b : Nat) (s : List Int × List Int) (x : Int) (w : World) (e : Ending) (w' : World) : Prop :=
  e = .returned (.bool (!fltB s.1 x)) ∧ MendM lo g b (kst s x) w' ∧ Below lo w w'
set_option maxRecDepth 100000 in
set_option maxHeartbeats 4000000 in
theorem keep_any (lo g b : Nat) (s : List Int × List Int) (x : Int) (hx : inN x) (hlen : s.2.length ≤ 1000) (w : World) (h : MendM lo g b s w) :
    Calls Try.prog 43 #[.pointer (some ⟨g, 0, none⟩), .int .i64 x] w (KeepR lo g b s x w) := by
  obtain ⟨A, m, c, hblk, hm, hown, hne⟩ := h.ex
  obtain ⟨i0, hi, hz0, hz1, hz2⟩ := info_parts info3
  have HM := Lib.hid h
  have HLd := Lib.hid h.led
  obtain ⟨ho1, ho2, ho3, ho4⟩ := h.ord
  have z0 : w.cell? ⟨g, 0, none⟩ = some (.map (some b)) := hblk.cells 0
  have HBk := Lib.hid hblk
  have HO := Lib.hid hown
  have HNE := Lib.hid hne
  have HF := Lib.hid (fault_any b s.1 s.2.length x hx w h.led)
  have HX := Lib.hid hx
  rw [hm] at hlen
  have Hm := Lib.hid hm
  clear h hblk hown hne hm
  cases hf : fltB s.1 x with
  | true =>
    have hk := Lib.hid (kst_no hf)
    rw [hf] at HF
    have hR := Lib.hid hf
    clear hf
    go_enter Try.func43, Try.ntmps43
    go_wp2_with fail
    refine HF.out.mono ?_
    rintro e w2 ⟨rfl, b2⟩
    have HM2 := Lib.hid (HM.out.below b2)
    have B2 := Lib.hid (b2.mono ho4)
    clear b2 z0
    go_wp2_with fail
    go_ret
    exact ⟨by rw [hR.out]; rfl, by rw [hk.out]; exact HM2.out, B2.out⟩
  | false =>
    have hk := Lib.hid (kst_yes hf)
    rw [hf] at HF
    have hR := Lib.hid hf
    clear hf
    go_enter Try.func43, Try.ntmps43
    go_wp2_with fail
    refine HF.out.mono ?_
    rintro e w2 ⟨rfl, b2⟩
    have HBk2 := HBk.out.below b2 HBk.out.lt
    have x1 : w2.cell? ⟨g, 0, none⟩ = some (.map (some b)) := HBk2.cells 0
    have x2 : w2.cell? ⟨g, 1, none⟩ = some (.slice A m c) := HBk2.cells 1
    have HBk3 := Lib.hid HBk2
    have HO2 := Lib.hid (own_below HO.out b2 (Nat.le_refl _))
    have hHX := Lib.hid (fun (V : World) (bb : Below w2.heap.size w2 V) => (show V.cell? ⟨g, 0, none⟩ = some (.map (some b)) ∧ V.cell? ⟨g, 1, none⟩ = some (.slice A m c) from ⟨(HBk3.out.below bb HBk3.out.lt).cells 0, (HBk3.out.below bb HBk3.out.lt).cells 1⟩))
    have hLd2 : Led w2 b s.1 m := by have := HLd.out.below b2; rwa [Hm.out] at this
    have HLd2 := Lib.hid hLd2
    have hE9 := Lib.hid (fun (V : World) (bb : Below w2.heap.size w2 V) => (enter_any b s.1 m x HX.out (by omega) V (HLd2.out.below bb)).mono (fun e w' (hh : EntR b (stepO s.1 x) (m + 1) V e w') => show e = .returned (.tuple #[]) ∧ Led w' b (stepO s.1 x) (m + 1) ∧ Chg (fun k => k = b) w2 w' ∧ w'.cell? ⟨g, 0, none⟩ = some (.map (some b)) ∧ w'.cell? ⟨g, 1, none⟩ = some (.slice A m c) from
      have hc : Chg (fun k => k = b) w2 w' := (Chg.of_below bb (C := fun k => k = b)).trans hh.2.2 (fun _ _ h => h)
      ⟨hh.1, hh.2.1, hc, (HBk3.out.chg hc ho3).cells 0, (HBk3.out.chg hc ho3).cells 1⟩))
    have B2 := Lib.hid (b2.mono ho4)
    have bD : Below w2.heap.size w2 w2.drew := (Below.refl _ _).drew
    have s2 := b2.size
    clear b2 z0 hLd2 HBk2
    go_wp2_with fail
    go_region_held3 (fun V => V.cell? ⟨g, 0, none⟩ = some (.map (some b)) ∧ V.cell? ⟨g, 1, none⟩ = some (.slice A m c))
      (first | exact ⟨x1, x2⟩ | exact ⟨y1, y2⟩ | (refine hHX.out _ ?_; assumption))
      (first | (go_at_call 33; refine (hE9.out _ ?_).mono ?_; assumption; rintro e w3 ⟨rfl, hl3, c3, y1, y2⟩))
    have HO3 := Lib.hid (own_chg HO2.out c3 (fun k hk hc => (HNE.out k hk).2 hc))
    have HBk4 := Lib.hid (HBk3.out.chg c3 ho3)
    have s3 := c3.size
    have B3 := Lib.hid (B2.out.trans (c3.below (by omega) (fun k hk hc => by omega)))
    have HL3 := Lib.hid hl3
    clear hl3 c3 y1 x1 x2 hE9 hHX HBk3 HLd2 bD HF
    go_wp2_with (first
      | (at_builtin; refine App.row_list _ rfl (.tmp 26) (.tmp 28) 22 rfl lo 0 3 i0 _ 1 8 Try.underlying22 hi hz0 hz1 hz2 rfl (by decide) (.slice A m c) m (cellsI s.2) rfl (own_alloc HO3.out _) (.slice (some ⟨w3.heap.size, 0, none⟩) 1 1) 1 [.int .i64 x] rfl (App.one_own (heap1_0 w3 _)) (by intro u hu; simp at hu; rw [hu]; rfl) (by unfold maxLen; omega) (by omega) (by simp; omega) ?_)
      | go_in)
    intro v4 w4 o4 g4 t4
    have hga : Chg (fun k => (Value.slice A m c).ownBlock = some k) w3 w4 := (Chg.alloc _ w3 (.cells #[.int .i64 x] 3)).trans (Chg.of_grown g4) (fun k _ hk => hk.symm)
    have hB5 : Blk w4 g 55 #[.map (some b), .slice A m c] := HBk4.out.chg hga (fun hc => (HNE.out _ hc).1 rfl)
    have hL5 := Lib.hid (HL3.out.chg hga (fun hc => (HNE.out _ hc).2 rfl))
    have B5 := Lib.hid (B3.out.trans (hga.below (by omega) (fun k hk hc => by have := (own_lt HO3.out hc).1; omega)))
    have s5 := hga.size
    have hne5 : ∀ k, v4.ownBlock = some k → k ≠ g ∧ k ≠ b := fun k hk => by
      rcases t4 with ha | ha
      · exact HNE.out k (by rw [← ha]; exact hk)
      · rw [ha] at hk
        have hk' : w3.heap.size + 1 = k := by simpa using hk
        have h1 := HBk4.out.lt
        have h2 := HL3.out.lt
        omega
    have HNE5 := Lib.hid hne5
    have O5 := Lib.hid (show w4.ownsRow lo 3 1 v4 (m + 1) (cellsI (s.2 ++ [x])) by rw [cellsI_append]; exact o4)
    obtain ⟨A5, c5, rfl⟩ := own_slice o4
    have y5 : w4.cell? ⟨g, 1, none⟩ = some (.slice A m c) := hB5.cells 1
    have f5 : w4.frozen? ⟨g, 1, none⟩ = false := hB5.frozen 1
    have HB5 := Lib.hid hB5
    clear o4 g4 t4 hga hB5 hne5
    go_wp2_with fail
    go_ret
    refine ⟨by rw [hR.out]; rfl, ?_, B5.out.setCell (p := ⟨g, 1, none⟩) (by show lo ≤ g; omega) _⟩
    rw [hk.out]
    refine ⟨⟨A5, m + 1, c5, ?_, by rw [List.length_append, Hm.out]; rfl, own_far O5.out _ _ (fun hc => (HNE5.out _ hc).1 rfl), HNE5.out⟩, ?_, ho1, ho2, ho3, by have := B5.out.size; show lo ≤ (w4.setCell _ _).heap.size; simp [World.setCell]; omega⟩
    · exact HB5.out.put 1 _
    · have := hL5.out.chg (Chg.set w4 ⟨g, 1, none⟩ (.slice A5 (m + 1) c5)) (fun hc => ho3 hc.symm)
      rw [List.length_append, Hm.out]
      exact this
set_option maxRecDepth 100000 in
set_option maxHeartbeats 4000000 in
theorem keepD_any (lo g b : Nat) (s : List Int × List Int) (x : Int) (hx : inN x) (hlen : s.2.length ≤ 1000) (w : World) (h : MendM lo g b s w) (u : FrameMode) :
    CallsD Try.prog 43 #[.pointer (some ⟨g, 0, none⟩), .int .i64 x] u w fun e u' w' => u' = u ∧ KeepR lo g b s x w e w' := by
  obtain ⟨A, m, c, hblk, hm, hown, hne⟩ := h.ex
  obtain ⟨i0, hi, hz0, hz1, hz2⟩ := info_parts info3
  have HM := Lib.hid h
  have HLd := Lib.hid h.led
  obtain ⟨ho1, ho2, ho3, ho4⟩ := h.ord
  have z0 : w.cell? ⟨g, 0, none⟩ = some (.map (some b)) := hblk.cells 0
  have HBk := Lib.hid hblk
  have HO := Lib.hid hown
  have HNE := Lib.hid hne
  have HF := Lib.hid (fault_any b s.1 s.2.length x hx w h.led)
  have HX := Lib.hid hx
  rw [hm] at hlen
  have Hm := Lib.hid hm
  clear h hblk hown hne hm
  cases hf : fltB s.1 x with
  | true =>
    have hk := Lib.hid (kst_no hf)
    rw [hf] at HF
    have hR := Lib.hid hf
    clear hf
    go_enter_d Try.func43, Try.ntmps43
    go_wp2_with fail
    refine HF.out.mono ?_
    rintro e w2 ⟨rfl, b2⟩
    have HM2 := Lib.hid (HM.out.below b2)
    have B2 := Lib.hid (b2.mono ho4)
    clear b2 z0
    go_wp2_with fail
    go_ret
    exact ⟨by rw [hR.out]; rfl, by rw [hk.out]; exact HM2.out, B2.out⟩
  | false =>
    have hk := Lib.hid (kst_yes hf)
    rw [hf] at HF
    have hR := Lib.hid hf
    clear hf
    go_enter_d Try.func43, Try.ntmps43
    go_wp2_with fail
    refine HF.out.mono ?_
    rintro e w2 ⟨rfl, b2⟩
    have HBk2 := HBk.out.below b2 HBk.out.lt
    have x1 : w2.cell? ⟨g, 0, none⟩ = some (.map (some b)) := HBk2.cells 0
    have x2 : w2.cell? ⟨g, 1, none⟩ = some (.slice A m c) := HBk2.cells 1
    have HBk3 := Lib.hid HBk2
    have HO2 := Lib.hid (own_below HO.out b2 (Nat.le_refl _))
    have hHX := Lib.hid (fun (V : World) (bb : Below w2.heap.size w2 V) => (show V.cell? ⟨g, 0, none⟩ = some (.map (some b)) ∧ V.cell? ⟨g, 1, none⟩ = some (.slice A m c) from ⟨(HBk3.out.below bb HBk3.out.lt).cells 0, (HBk3.out.below bb HBk3.out.lt).cells 1⟩))
    have hLd2 : Led w2 b s.1 m := by have := HLd.out.below b2; rwa [Hm.out] at this
    have HLd2 := Lib.hid hLd2
    have hE9 := Lib.hid (fun (V : World) (bb : Below w2.heap.size w2 V) => (enter_any b s.1 m x HX.out (by omega) V (HLd2.out.below bb)).mono (fun e w' (hh : EntR b (stepO s.1 x) (m + 1) V e w') => show e = .returned (.tuple #[]) ∧ Led w' b (stepO s.1 x) (m + 1) ∧ Chg (fun k => k = b) w2 w' ∧ w'.cell? ⟨g, 0, none⟩ = some (.map (some b)) ∧ w'.cell? ⟨g, 1, none⟩ = some (.slice A m c) from
      have hc : Chg (fun k => k = b) w2 w' := (Chg.of_below bb (C := fun k => k = b)).trans hh.2.2 (fun _ _ h => h)
      ⟨hh.1, hh.2.1, hc, (HBk3.out.chg hc ho3).cells 0, (HBk3.out.chg hc ho3).cells 1⟩))
    have B2 := Lib.hid (b2.mono ho4)
    have bD : Below w2.heap.size w2 w2.drew := (Below.refl _ _).drew
    have s2 := b2.size
    clear b2 z0 hLd2 HBk2
    go_wp2_with fail
    go_region_held3 (fun V => V.cell? ⟨g, 0, none⟩ = some (.map (some b)) ∧ V.cell? ⟨g, 1, none⟩ = some (.slice A m c))
      (first | exact ⟨x1, x2⟩ | exact ⟨y1, y2⟩ | (refine hHX.out _ ?_; assumption))
      (first | (go_at_call 33; refine (hE9.out _ ?_).mono ?_; assumption; rintro e w3 ⟨rfl, hl3, c3, y1, y2⟩))
    have HO3 := Lib.hid (own_chg HO2.out c3 (fun k hk hc => (HNE.out k hk).2 hc))
    have HBk4 := Lib.hid (HBk3.out.chg c3 ho3)
    have s3 := c3.size
    have B3 := Lib.hid (B2.out.trans (c3.below (by omega) (fun k hk hc => by omega)))
    have HL3 := Lib.hid hl3
    clear hl3 c3 y1 x1 x2 hE9 hHX HBk3 HLd2 bD HF
    go_wp2_with (first
      | (at_builtin; refine App.row_list _ rfl (.tmp 26) (.tmp 28) 22 rfl lo 0 3 i0 _ 1 8 Try.underlying22 hi hz0 hz1 hz2 rfl (by decide) (.slice A m c) m (cellsI s.2) rfl (own_alloc HO3.out _) (.slice (some ⟨w3.heap.size, 0, none⟩) 1 1) 1 [.int .i64 x] rfl (App.one_own (heap1_0 w3 _)) (by intro u hu; simp at hu; rw [hu]; rfl) (by unfold maxLen; omega) (by omega) (by simp; omega) ?_)
      | go_in)
    intro v4 w4 o4 g4 t4
    have hga : Chg (fun k => (Value.slice A m c).ownBlock = some k) w3 w4 := (Chg.alloc _ w3 (.cells #[.int .i64 x] 3)).trans (Chg.of_grown g4) (fun k _ hk => hk.symm)
    have hB5 : Blk w4 g 55 #[.map (some b), .slice A m c] := HBk4.out.chg hga (fun hc => (HNE.out _ hc).1 rfl)
    have hL5 := Lib.hid (HL3.out.chg hga (fun hc => (HNE.out _ hc).2 rfl))
    have B5 := Lib.hid (B3.out.trans (hga.below (by omega) (fun k hk hc => by have := (own_lt HO3.out hc).1; omega)))
    have s5 := hga.size
    have hne5 : ∀ k, v4.ownBlock = some k → k ≠ g ∧ k ≠ b := fun k hk => by
      rcases t4 with ha | ha
      · exact HNE.out k (by rw [← ha]; exact hk)
      · rw [ha] at hk
        have hk' : w3.heap.size + 1 = k := by simpa using hk
        have h1 := HBk4.out.lt
        have h2 := HL3.out.lt
        omega
    have HNE5 := Lib.hid hne5
    have O5 := Lib.hid (show w4.ownsRow lo 3 1 v4 (m + 1) (cellsI (s.2 ++ [x])) by rw [cellsI_append]; exact o4)
    obtain ⟨A5, c5, rfl⟩ := own_slice o4
    have y5 : w4.cell? ⟨g, 1, none⟩ = some (.slice A m c) := hB5.cells 1
    have f5 : w4.frozen? ⟨g, 1, none⟩ = false := hB5.frozen 1
    have HB5 := Lib.hid hB5
    clear o4 g4 t4 hga hB5 hne5
    go_wp2_with fail
    go_ret
    refine ⟨by rw [hR.out]; rfl, ?_, B5.out.setCell (p := ⟨g, 1, none⟩) (by show lo ≤ g; omega) _⟩
    rw [hk.out]
    refine ⟨⟨A5, m + 1, c5, ?_, by rw [List.length_append, Hm.out]; rfl, own_far O5.out _ _ (fun hc => (HNE5.out _ hc).1 rfl), HNE5.out⟩, ?_, ho1, ho2, ho3, by have := B5.out.size; show lo ≤ (w4.setCell _ _).heap.size; simp [World.setCell]; omega⟩
    · exact HB5.out.put 1 _
    · have := hL5.out.chg (Chg.set w4 ⟨g, 1, none⟩ (.slice A5 (m + 1) c5)) (fun hc => ho3 hc.symm)
      rw [List.length_append, Hm.out]
      exact this
end Go.Proofs.Ytikdcnlbjpabjaa.EdM
