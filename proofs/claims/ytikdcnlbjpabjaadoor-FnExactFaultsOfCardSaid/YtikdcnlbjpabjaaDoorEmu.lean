/- untidiness returns the chain of errors of what keeps entries from being tidy. -/
import Derived.Test.YtikdcnlbjpabjaaDoorEmr
namespace Go.Proofs.YtikdcnlbjpabjaaDoor.EntL
set_option linter.unusedVariables false
set_option linter.unusedSimpArgs false
open Go.ChangeShapes Go.WideShapes Go.ChangeAt Go.RowKit Go.Maps
open Mem IntsP LiP EntP GrwP EntS

/-- A chain of faults at places, the last one first. -/
def Ch (w : World) (lo : Nat) : List Int → Value → Prop
  | [], v => v = .nilIface
  | p :: ps, v => ∃ g vb, v = .iface 51 (.pointer (some ⟨g, 0, none⟩)) ∧ lo ≤ g ∧ Blk w g 54 #[.int .i64 p, vb] ∧ Ch w lo ps vb
theorem Ch.chg {C : Nat → Prop} {w w' : World} {lo : Nat} (hc : Chg C w w') (hC : ∀ g, lo ≤ g → ¬ C g) : ∀ {ps : List Int} {v : Value}, Ch w lo ps v → Ch w' lo ps v
  | [], v, h => h
  | p :: ps, v, ⟨g, vb, e, hg, hb, h⟩ => ⟨g, vb, e, hg, hb.chg hc (hC g hg), Ch.chg hc hC h⟩
theorem Ch.mono {w : World} {lo lo' : Nat} (hl : lo' ≤ lo) : ∀ {ps : List Int} {v : Value}, Ch w lo ps v → Ch w lo' ps v
  | [], v, h => h
  | p :: ps, v, ⟨g, vb, e, hg, hb, h⟩ => ⟨g, vb, e, by omega, hb, Ch.mono hl h⟩
theorem Ch.form {w : World} {lo : Nat} {ps : List Int} {v : Value} (h : Ch w lo ps v) : v = .nilIface ∨ ∃ g, v = .iface 51 (.pointer (some ⟨g, 0, none⟩)) := by
  cases ps with
  | nil => exact .inl h
  | cons p ps => obtain ⟨g, vb, rfl, _⟩ := h; exact .inr ⟨g, rfl⟩
theorem Ch.nil_iff {w : World} {lo : Nat} {ps : List Int} {v : Value} (h : Ch w lo ps v) : v = .nilIface ↔ ps = [] := by
  cases ps with
  | nil => exact ⟨fun _ => rfl, fun _ => h⟩
  | cons p ps => obtain ⟨g, vb, rfl, _⟩ := h; simp
def UntR (os fs : List Int) (w : World) (e : Ending) (w' : World) : Prop :=
  ∃ v, e = .returned v ∧ Below w.heap.size w w' ∧
    ((os = [] ∧ Ch w' w.heap.size fs v) ∨ (os ≠ [] ∧ ∃ g A c vb, v = .iface 43 (.pointer (some ⟨g, 0, none⟩)) ∧ w.heap.size ≤ g ∧ Blk w' g 50 #[.slice A os.length c, vb] ∧
      OwnI w' w.heap.size (.slice A os.length c) os ∧ (∀ k, (Value.slice A os.length c).ownBlock = some k → k ≠ g) ∧ Ch w' w.heap.size fs vb))
theorem UntR.nil_iff {os fs : List Int} {w w' : World} {v : Value} (h : UntR os fs w (.returned v) w') : v = .nilIface ↔ (os = [] ∧ fs = []) := by
  obtain ⟨v', e, _, h | h⟩ := h
  · injection e with e
    subst e
    rw [h.2.nil_iff]
    exact ⟨fun hf => ⟨h.1, hf⟩, fun hf => hf.2⟩
  · injection e with e
    subst e
    obtain ⟨h1, g, A, c, vb, rfl, _⟩ := h
    constructor
    · intro hc; cases hc
    · intro hc; exact absurd hc.1 h1
set_option maxRecDepth 100000 in
set_option maxHeartbeats 4000000 in
theorem unt_any (n c : Nat) (A : Option Addr) (xs : List Int) (hl : xs.length = n) (h60 : n ≤ 1000) (hg : goodK xs n) (w : World) (hr : RdI w w.heap.size A xs) :
    Calls Tryd.prog 32 #[.slice A n c] w (UntR (openK xs n) (faultsK xs n).reverse w) := by
  have HL := Lib.hid hl
  have HR := Lib.hid hr
  have HGK := Lib.hid hg
  clear hr hg hl
  go_enter Tryd.func32, Tryd.ntmps32
  go_wp2_with fail
  refine (new_any _).mono ?_
  rintro e w1 ⟨b, rfl, hb0, hled, hbl⟩
  go_wp2_with fail
  obtain ⟨bx, hbx⟩ : ∃ bx, w1.heap.size = bx := ⟨_, rfl⟩
  obtain ⟨w2, hw2⟩ : ∃ w2, w1.alloc (.cells #[.map (some b)] 63) = w2 := ⟨_, rfl⟩
  have lb : b < bx := by rw [← hbx]; exact hled.lt
  have HX := Lib.hid (show Blk w2 bx 63 #[.map (some b)] by rw [← hw2, ← hbx]; exact heap1_0 _ _)
  have b12 : Below w1.heap.size w1 w2 := by rw [← hw2]; exact (Below.refl _ _).alloc (Nat.le_refl _) _
  have HLed := Lib.hid (hled.below b12)
  have HB2 := Lib.hid (hbl.trans (b12.mono hbl.size))
  have HR2 := Lib.hid (HR.out.below HB2.out)
  have s2 : bx < w2.heap.size := HX.out.lt
  have s0 : w.heap.size ≤ bx := by have := hbl.size; omega
  rw [hw2, hbx]
  clear hw2 hbx hled hbl b12 HR
  go_loopw [3, 11] (fun v i wr => ∃ (k : Nat), k ≤ n ∧ i = .int .i64 k ∧ Led wr b (openK xs k) k ∧ Ch wr w2.heap.size (faultsK xs k).reverse v ∧ Chg (fun j => j = b) w2 wr) (fun _ i _ => n - (intOf i).toNat)
  case atStart => exact ⟨0, Nat.zero_le _, rfl, by rw [openK_zero]; exact HLed.out, rfl, Chg.refl _ _⟩
  case round =>
    obtain ⟨k, hk, rfl, hled, hch, hc⟩ := hrel
    have HD := Lib.hid hled
    have HCh := Lib.hid hch
    have HC := Lib.hid hc
    have szr := hc.size
    have zx : wr.cell? ⟨bx, 0, none⟩ = some (.map (some b)) := (HX.out.chg hc (by omega)).cells 0
    have HRr := Lib.hid (rdI_chg HR2.out hc (by omega) (fun j hj => by omega))
    clear hled hch hc
    by_cases hlt : k < n
    · obtain ⟨z, hz⟩ : ∃ z, xs[k]? = some z := ⟨_, List.getElem?_eq_getElem (by rw [HL.out]; exact hlt)⟩
      obtain ⟨ad, had, hab, h0⟩ := HRr.out k z hz
      obtain rfl := had
      have HZ := Lib.hid hz
      have hin := HGK.out k z hlt hz
      have HF := Lib.hid (fault_any b (openK xs k) k z hin wr HD.out)
      have HE := Lib.hid (fun W (h : Led W b (openK xs k) k) => enter_any b (openK xs k) k z hin (by omega) W h)
      clear hz hin
      cases hf : fltB (openK xs k) z with
      | true =>
        have HN := Lib.hid (show (faultsK xs (k + 1)).reverse = (k : Int) :: (faultsK xs k).reverse by rw [faultsK_yes HZ.out hf, List.reverse_append]; rfl)
        rw [hf] at HF
        clear hf
        go_wp2_with fail
        refine HF.out.mono ?_
        rintro e w3 ⟨rfl, b3⟩
        have HD3 := Lib.hid (HD.out.below b3)
        have HC3 := Lib.hid (HC.out.trans (Chg.of_below b3 (C := fun _ => False)) (fun x _ hx => hx.elim))
        have HCh3 := Lib.hid (Ch.chg (Chg.of_below b3 (C := fun _ => False)) (fun _ _ hx => hx) HCh.out)
        have zx3 : w3.cell? ⟨bx, 0, none⟩ = some (.map (some b)) := (b3.cell (p := ⟨bx, 0, none⟩) (by show bx < wr.heap.size; omega)).trans zx
        rcases HCh.out.form with rfl | ⟨gv, rfl⟩
        · clear b3 zx h0 HF
          have zx4 : ∀ o, (w3.alloc o).cell? ⟨bx, 0, none⟩ = some (.map (some b)) := fun o => (World.cell?_alloc_lt _ _ ⟨bx, 0, none⟩ (World.block_lt_of_cell? w3 _ zx3)).trans zx3
          have s3 := HC3.out.size
          clear zx3
          go_wp2_with fail
          have bal : ∀ o, Below w3.heap.size w3 (w3.alloc o) := fun o => (Below.refl _ _).alloc (Nat.le_refl _) _
          refine (HE.out _ (HD3.out.below (bal _))).mono ?_
          rintro e w4 ⟨rfl, hl4, hc4⟩
          rw [← openK_succ HZ.out] at hl4
          have HL4 := Lib.hid hl4
          have HC4 := Lib.hid ((HC3.out.new _).trans hc4 (fun x _ h => h))
          have HCh4 := Lib.hid (show Ch w4 w2.heap.size ((k : Int) :: (faultsK xs k).reverse) (.iface 51 (.pointer (some ⟨w3.heap.size, 0, none⟩))) from
            ⟨_, _, rfl, s3, Blk.chg (heap1_0 w3 _) hc4 (by omega), Ch.chg hc4 (fun g hg hx => by omega) (Ch.chg (Chg.of_below (bal _) (C := fun _ => False)) (fun _ _ hx => hx) HCh3.out)⟩)
          clear hl4 hc4 HE bal zx4
          go_wp2_with fail
          go_roundw
          case rel => exact ⟨k + 1, by omega, by go_num, HL4.out, by rw [HN.out]; exact HCh4.out, HC4.out⟩
          case measure => simp [intOf]; omega
        · clear b3 zx h0 HF
          have zx4 : ∀ o, (w3.alloc o).cell? ⟨bx, 0, none⟩ = some (.map (some b)) := fun o => (World.cell?_alloc_lt _ _ ⟨bx, 0, none⟩ (World.block_lt_of_cell? w3 _ zx3)).trans zx3
          have s3 := HC3.out.size
          clear zx3
          go_wp2_with fail
          have bal : ∀ o, Below w3.heap.size w3 (w3.alloc o) := fun o => (Below.refl _ _).alloc (Nat.le_refl _) _
          refine (HE.out _ (HD3.out.below (bal _))).mono ?_
          rintro e w4 ⟨rfl, hl4, hc4⟩
          rw [← openK_succ HZ.out] at hl4
          have HL4 := Lib.hid hl4
          have HC4 := Lib.hid ((HC3.out.new _).trans hc4 (fun x _ h => h))
          have HCh4 := Lib.hid (show Ch w4 w2.heap.size ((k : Int) :: (faultsK xs k).reverse) (.iface 51 (.pointer (some ⟨w3.heap.size, 0, none⟩))) from
            ⟨_, _, rfl, s3, Blk.chg (heap1_0 w3 _) hc4 (by omega), Ch.chg hc4 (fun g hg hx => by omega) (Ch.chg (Chg.of_below (bal _) (C := fun _ => False)) (fun _ _ hx => hx) HCh3.out)⟩)
          clear hl4 hc4 HE bal zx4
          go_wp2_with fail
          go_roundw
          case rel => exact ⟨k + 1, by omega, by go_num, HL4.out, by rw [HN.out]; exact HCh4.out, HC4.out⟩
          case measure => simp [intOf]; omega
      | false =>
        have HN := Lib.hid (faultsK_no HZ.out hf)
        rw [hf] at HF
        clear hf
        go_wp2_with fail
        refine HF.out.mono ?_
        rintro e w3 ⟨rfl, b3⟩
        have HD3 := Lib.hid (HD.out.below b3)
        have HC3 := Lib.hid (HC.out.trans (Chg.of_below b3 (C := fun _ => False)) (fun x _ hx => hx.elim))
        have HCh3 := Lib.hid (Ch.chg (Chg.of_below b3 (C := fun _ => False)) (fun _ _ hx => hx) HCh.out)
        have zx3 : w3.cell? ⟨bx, 0, none⟩ = some (.map (some b)) := (b3.cell (p := ⟨bx, 0, none⟩) (by show bx < wr.heap.size; omega)).trans zx
        clear b3 zx h0 HF
        go_wp2_with fail
        refine (HE.out _ HD3.out).mono ?_
        rintro e w4 ⟨rfl, hl4, hc4⟩
        rw [← openK_succ HZ.out] at hl4
        have HL4 := Lib.hid hl4
        have HC4 := Lib.hid (HC3.out.trans hc4 (fun x _ h => h))
        have HCh4 := Lib.hid (Ch.chg hc4 (fun g hg hx => by omega) HCh3.out)
        clear hl4 hc4 HE
        go_wp2_with fail
        go_roundw
        case rel => exact ⟨k + 1, by omega, by go_num, HL4.out, by rw [HN.out]; exact HCh4.out, HC4.out⟩
        case measure => simp [intOf]; omega
    · obtain rfl : k = n := by omega
      have hlen := openK_len xs k
      have hbw : Below w.heap.size w wr := HB2.out.trans (HC.out.below (by omega) (fun j hj => by omega))
      have HBW := Lib.hid hbw
      have sw := hbw.size
      have HRes := Lib.hid (resources_any b k (openK xs k) (by omega) (openK_pos HGK.out (by rw [HL.out]; exact Nat.le_refl _)) (by omega) wr HD.out)
      clear hbw
      go_wp2_with fail
      refine HRes.out.mono ?_
      rintro e w3 ⟨A3, c3, rfl, ho3, b3⟩
      have HO3 := Lib.hid ho3
      have HB3 := Lib.hid (HBW.out.trans (b3.mono sw))
      have HCh3 := Lib.hid (Ch.mono (lo' := w.heap.size) (by have := HB2.out.size; omega) (Ch.chg (Chg.of_below b3 (C := fun _ => False)) (fun _ _ hx => hx) HCh.out))
      have s3 := b3.size
      clear ho3 b3 HRes zx
      by_cases hz : (openK xs k).length = 0
      · have ho : openK xs k = [] := List.eq_nil_of_length_eq_zero hz
        have hO := Lib.hid ho
        rw [hz]
        clear ho hz
        go_wp2_with fail
        go_ret
        exact ⟨_, rfl, HB3.out, .inl ⟨hO.out, HCh3.out⟩⟩
      · have hO := Lib.hid (show openK xs k ≠ [] from fun e => hz (by rw [e]; rfl))
        have HO4 := Lib.hid HO3.out
        obtain ⟨d, hd⟩ : ∃ d, (openK xs k).length = d := ⟨_, rfl⟩
        have HDd := Lib.hid hd
        rw [hd] at hz hlen HO3 ⊢
        have hd0 : 0 < d := by omega
        clear hd hz
        rcases HCh.out.form with rfl | ⟨gv, rfl⟩
        · go_wp2_with fail
          go_ret
          have bal : ∀ o, Below w3.heap.size w3 (w3.alloc o) := fun o => (Below.refl _ _).alloc (Nat.le_refl _) _
          refine ⟨_, rfl, HB3.out.alloc HB3.out.size _, .inr ⟨hO.out, w3.heap.size, A3, c3, _, rfl, HB3.out.size, by rw [HDd.out]; exact heap1_0 w3 _, ?_, ?_, ?_⟩⟩
          · exact own_mono (own_below HO4.out (bal _) (Nat.le_refl _)) sw
          · intro k' hk' e
            have := (own_lt HO4.out hk').2
            omega
          · exact Ch.chg (Chg.of_below (bal _) (C := fun _ => False)) (fun _ _ hx => hx) HCh3.out
        · go_wp2_with fail
          go_ret
          have bal : ∀ o, Below w3.heap.size w3 (w3.alloc o) := fun o => (Below.refl _ _).alloc (Nat.le_refl _) _
          refine ⟨_, rfl, HB3.out.alloc HB3.out.size _, .inr ⟨hO.out, w3.heap.size, A3, c3, _, rfl, HB3.out.size, by rw [HDd.out]; exact heap1_0 w3 _, ?_, ?_, ?_⟩⟩
          · exact own_mono (own_below HO4.out (bal _) (Nat.le_refl _)) sw
          · intro k' hk' e
            have := (own_lt HO4.out hk').2
            omega
          · exact Ch.chg (Chg.of_below (bal _) (C := fun _ => False)) (fun _ _ hx => hx) HCh3.out
end Go.Proofs.YtikdcnlbjpabjaaDoor.EntL
