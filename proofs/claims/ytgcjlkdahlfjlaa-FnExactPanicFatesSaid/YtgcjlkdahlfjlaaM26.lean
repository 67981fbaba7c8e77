/- Read Read3, in one text. -/
import Derived.Test.YtgcjlkdahlfjlaaM19
import Derived.Deep.LoopGhost
import Derived.Test.YtgcjlkdahlfjlaaM3
import Derived.Test.YtgcjlkdahlfjlaaM15
import Derived.Deep.AppendLies
import Derived.Deep.RegionHeld3
import Derived.Deep.Cut
/- impl.account.readCall: what one call's reading leaves. -/
namespace Go.Proofs.Ytgcjlkdahlfjlaa.ReadP
set_option linter.unusedVariables false
set_option linter.unusedSimpArgs false
open Go.ChangeShapes Go.WideShapes Go.ChangeAt Go.RowKit
open PL Mem Srun Sst IntsP RowC AccP

theorem td_beg {S : PL.Told} {e0 e1 e2 : Int} (h : Beg e0) : td S (e0, e1, e2) = ⟨S.calls ++ [⟨e1, S.now, e0 == 3, 4, 0⟩], S.owners ++ [(S.calls.length : Int)], S.calls.length⟩ := by unfold td; rw [if_pos h]
theorem td_fin {S : PL.Told} {e0 e1 e2 : Int} {c : CI} {j : Nat} (h : Fin e0) (hn : S.now = j) (hc : S.calls[j]? = some c) : td S (e0, e1, e2) = ⟨S.calls.set j ⟨c.f, c.par, c.dfr, endOf e0, e2⟩, S.owners ++ [(j : Int)], c.par⟩ := by
 have hb : ¬ Beg e0 := fun hb => beg_fin hb h
 unfold td
 rw [if_neg hb, if_pos h, hn]
 unfold closeAt parAt
 rw [Int.toNat_natCast, hc]
theorem td_own {S : PL.Told} {e0 e1 e2 : Int} (h : ¬ Beg e0) (h' : ¬ Fin e0) : td S (e0, e1, e2) = ⟨S.calls, S.owners ++ [S.now], S.now⟩ := by unfold td; rw [if_neg h, if_neg h']
/-- The deferred call sets the current call back; nothing is left. -/
theorem leave {g : Nat} {k v s : Int} {tv cv ov : Value} {cs : List CI} {os : List Int} {cur u : Int} {W : World} {R : Ending → World → Prop} {tmps : Array Value} (h : Acc g k v s tv cv ov cs os cur W)
  (hR : ∀ W', Acc g k v s tv cv ov cs os u W' → Below g W W' → R (.returned (.tuple #[])) W') :
  Leaves Try.prog Try.f116 tmps R [{ target := .fn (.func 144) #[], args := #[.pointer (some ⟨g, 0, none⟩), .int .i64 u] }] .returning W := by
 refine leaves_cons (f := 144) (args := #[.pointer (some ⟨g, 0, none⟩), .int .i64 u]) (by simp) (by simp [go_sem]) ?_
 refine (resume_d h u _).mono ?_
 rintro e u' w'' ⟨rfl, rfl, h', b'⟩
 change Leaves _ _ _ _ [] .returning _
 exact ⟨.tuple #[], by simp [results, Try.results116, go_sem], hR _ h' b'⟩

section
variable {g N ct : Nat} {k v s : Int} {At : Option Addr} {t : List Tr}
/-- Reading a call from i on. -/
def ReadR (g N ct : Nat) (k v s : Int) (At : Option Addr) (t : List Tr) (i : Nat) (W : World) (e : Ending) (W' : World) : Prop :=
 ∃ j cv' ov', e = .returned (.tuple #[]) ∧ ReadTo t i j ∧ Acc g k v s (.slice At N ct) cv' ov' (tds (t.take j)).calls (tds (t.take j)).owners (tds (t.take i)).now W' ∧ Below g W W'
set_option maxRecDepth 100000 in
set_option maxHeartbeats 4000000 in
theorem read_any (hw : Whole t) (hN : t.length = N) (hN2 : N ≤ 100000) : ∀ (n i : Nat) (W : World) (cv ov : Value), N - i ≤ n → (∃ e, t[i]? = some e ∧ Beg e.1) →
  Acc g k v s (.slice At N ct) cv ov (tds (t.take i)).calls (tds (t.take i)).owners (tds (t.take i)).now W → Rd3 W g At t →
  Calls Try.prog 116 #[.pointer (some ⟨g, 0, none⟩)] W (ReadR g N ct k v s At t i W)
 | 0, i, W, cv, ov, hn, ⟨e, he, hb⟩, _, _ => by have := (List.getElem?_eq_some_iff.1 he).1; omega
 | n + 1, i, W, cv, ov, hn, ⟨⟨a0, a1, a2⟩, ha, hab⟩, hacc, hr => by
  have hi : i < N := by rw [← hN]; exact (List.getElem?_eq_some_iff.1 ha).1
  have ih := Lib.hid (read_any hw hN hN2 n)
  have inv := hw.inv i (by omega)
  have z6 : W.cell? ⟨g, 6, none⟩ = some (.int .i64 (tds (t.take i)).now) := hacc.blk.cells 6
  have hbg := Lib.hid (begin_any hacc hr hN (e := (a0, a1, a2)) (by rw [inv.olen]; exact ha) (by rw [inv.olen]; omega) (by have := inv.clen; omega))
  have h1 := tds_take ha
  rw [td_beg hab] at h1
  have HT1 := Lib.hid h1
  have HR := Lib.hid hr
  have HW := Lib.hid hw
  have HRD0 := Lib.hid (reading_beg ha hab)
  have hcl : (tds (t.take i)).calls.length ≤ i := inv.clen
  have HHN := Lib.hid hN
  clear hacc hr inv h1 ha hab hw hN
  go_enter_defers Try.func116, Try.ntmps116
  go_wp2_with fail
  refine hbg.out.mono ?_
  rintro e W1 ⟨cv1, ov1, rfl, h1, b1⟩
  have H1 := Lib.hid (show Acc g k v s (.slice At N ct) cv1 ov1 (tds (t.take (i + 1))).calls (tds (t.take (i + 1))).owners ((tds (t.take i)).calls.length : Int) W1 by rw [HT1.out]; exact h1)
  have B1 := Lib.hid b1
  clear h1 b1 hbg z6
  go_wp2_with fail
  go_loopg [] (N - (i + 1)) (fun kk wr => ∃ (j : Nat) (cv' ov' : Value), N - j = kk ∧ Reading t i j ∧ Acc g k v s (.slice At N ct) cv' ov' (tds (t.take j)).calls (tds (t.take j)).owners ((tds (t.take i)).calls.length : Int) wr ∧ Below g W wr)
  case atStart => exact ⟨i + 1, cv1, ov1, rfl, HRD0.out, H1.out, B1.out⟩
  case round =>
   obtain ⟨j, cv2, ov2, hk, hrd, hacc, hb⟩ := hrel
   clear H1 B1 HT1 HRD0
   have hjN : j ≤ N := by have := hrd.2.1; have := HHN.out; omega
   have hij : i < j := hrd.1
   have inv := HW.out.inv j (by have := HHN.out; omega)
   have holen := inv.olen
   have hclen := inv.clen
   obtain ⟨Ao, co, rfl⟩ := own_slice hacc.owners
   have z5 : wr.cell? ⟨g, 5, none⟩ = some (.slice Ao (tds (t.take j)).owners.length co) := hacc.blk.cells 5
   rw [holen] at z5
   have z2 : wr.cell? ⟨g, 2, none⟩ = some (.slice At N ct) := hacc.blk.cells 2
   have H := Lib.hid hacc
   have HB := Lib.hid hb
   have HRD := Lib.hid hrd
   have HOL := Lib.hid holen
   have HK := Lib.hid hk
   clear hacc hb hrd inv holen hk
   by_cases hlt : j < N
   ·obtain ⟨⟨e0, e1, e2⟩, he⟩ : ∃ e, t[j]? = some e := ⟨_, List.getElem?_eq_getElem (by rw [HHN.out]; exact hlt)⟩
    have HE := Lib.hid he
    have hnx := Lib.hid (next_any (H.out.below ((Below.refl wr.heap.size wr).drew)) (HR.out.below (HB.out.trans ((Below.refl g wr).drew))) HHN.out (e := (e0, e1, e2)) (by rw [HOL.out]; exact he))
    have HA := Lib.hid (fun (V : World) (b : Below wr.drew.heap.size wr.drew V) => H.out.below ((Below.refl wr.heap.size wr).drew.trans b))
    have HBA := Lib.hid (fun (V : World) (b : Below wr.drew.heap.size wr.drew V) => HB.out.trans (((Below.refl wr.heap.size wr).drew.trans b).mono (Nat.le_of_lt H.out.lt)))
    have hfld := ev_field0 e0 e1 e2
    clear he H HB
    go_wp2_with fail
    go_region
    all_goals
     clear z2 z5
     go_wp2_with fail
     refine hnx.out.mono ?_
     rintro e' W2 ⟨rfl, b2⟩
     have H2 := Lib.hid (HA.out _ b2)
     have B2 := Lib.hid (HBA.out _ b2)
     clear b2 hnx HA HBA
     by_cases k1 : Beg e0
     ·have HIH := Lib.hid (ih.out j W2 cv2 (.slice Ao (tds (t.take j)).owners.length co) (by omega) ⟨_, HE.out, k1⟩ (by rw [HRD.out.now (by rw [HHN.out]; exact hlt)]; exact H2.out) (HR.out.below B2.out))
      unfold Beg at k1
      rcases k1 with rfl | rfl <;>
      ·go_wp2_with fail
       refine HIH.out.mono ?_
       rintro e' W3 ⟨j', cv3, ov3, rfl, hr3, h3, b3⟩
       have h3' : Acc g k v s (.slice At N ct) cv3 ov3 (tds (t.take j')).calls (tds (t.take j')).owners ((tds (t.take i)).calls.length : Int) W3 := by rw [← HRD.out.now (by rw [HHN.out]; exact hlt)]; exact h3
       have H3 := Lib.hid h3'
       have B3 := Lib.hid (B2.out.trans b3)
       have hr4 := reading_call HRD.out (by rw [HHN.out]; exact hlt) hr3
       have HR4 := Lib.hid hr4
       have hjj : j < j' := hr3.1
       have hjN' : j' ≤ N := by have := hr3.2.1; have := HHN.out; omega
       clear h3 h3' b3 hr3 hr4
       go_wp2_with fail
       go_roundg (N - j')
       case measure => have := HK.out; omega
       case rel => exact ⟨j', cv3, ov3, rfl, HR4.out, H3.out, B3.out⟩
     ·by_cases k2 : Fin e0
      ·obtain ⟨x, hx, hxp⟩ := HRD.out.2.2.2
       have hnow := HRD.out.now (by rw [HHN.out]; exact hlt)
       have hts := tds_take HE.out
       rw [td_fin k2 hnow hx] at hts
       have HTS := Lib.hid hts
       have HEND := Lib.hid (fun kd => end_any H2.out (HR.out.below B2.out) HHN.out (e := (e0, e1, e2)) (by rw [HOL.out]; exact HE.out) (by rw [HOL.out]; omega) hx (by omega) kd)
       have HRE := Lib.hid (reading_end HRD.out HE.out k2)
       clear hts hx hxp hnow
       unfold PL.Fin at k2
       rcases k2 with rfl | rfl | rfl <;>
       ·go_wp2_with fail
        refine (HEND.out _).mono ?_
        rintro e' W3 ⟨cv3, ov3, rfl, h3, b3⟩
        have B3 := Lib.hid (B2.out.trans b3)
        have H3 := Lib.hid h3
        clear h3 b3
        go_wp2_with fail
        refine leave H3.out ?_
        intro W4 h4 b4
        exact ⟨j + 1, cv3, ov3, rfl, HRE.out, by rw [HTS.out]; exact h4, B3.out.trans b4⟩
      ·have c1 : (e0 == 1) = false := by unfold Beg at k1; simp; omega
       have c3 : (e0 == 3) = false := by unfold Beg at k1; simp; omega
       have c7 : (e0 == 7) = false := by unfold PL.Fin at k2; simp; omega
       have c8 : (e0 == 8) = false := by unfold PL.Fin at k2; simp; omega
       have c9 : (e0 == 9) = false := by unfold PL.Fin at k2; simp; omega
       have hts := tds_take HE.out
       rw [td_own k1 k2, HRD.out.now (by rw [HHN.out]; exact hlt)] at hts
       have HTS := Lib.hid hts
       have HRE := Lib.hid (reading_own HRD.out HE.out k1 k2)
       have HOWN := Lib.hid (own_any H2.out (by rw [HOL.out]; omega))
       clear hts k1 k2
       go_wp2_with fail
       refine HOWN.out.mono ?_
       rintro e' W3 ⟨ov3, rfl, h3, b3⟩
       have B3 := Lib.hid (B2.out.trans b3)
       have H3 := Lib.hid h3
       clear h3 b3
       go_wp2_with fail
       go_roundg (N - (j + 1))
       case measure => have := HK.out; omega
       case rel => exact ⟨j + 1, cv2, ov3, rfl, HRE.out, by rw [HTS.out]; exact H3.out, B3.out⟩
   ·obtain rfl : j = N := by omega
    have HA := Lib.hid (H.out.below ((Below.refl wr.heap.size wr).drew))
    have HBA := Lib.hid (HB.out.trans ((Below.refl g wr).drew))
    clear H HB
    go_wp2_with fail
    go_region
    all_goals
     go_wp2_with fail
     refine leave HA.out ?_
     intro W4 h4 b4
     refine ⟨t.length, cv2, _, rfl, ?_, by rw [HHN.out]; exact h4, HBA.out.trans b4⟩
     have hx := HRD.out
     rw [← HHN.out] at hx
     exact reading_all hx
end
end Go.Proofs.Ytgcjlkdahlfjlaa.ReadP

/- spec.l3Read: what a trace tells. (Written by wip/tools/genread3.py.) -/
namespace Go.Proofs.Ytgcjlkdahlfjlaa.Read3
set_option linter.unusedVariables false
set_option linter.unusedSimpArgs false
open Go.ChangeShapes Go.WideShapes Go.ChangeAt Go.RowKit
open PL Mem Srun Sst IntsP RowC

/-- What has been told, in a box; the result's box. -/
structure TS (w : World) (b0 g : Nat) (cv ov : Value) (cs : List CI) (os : List Int) (W : World) : Prop where
 res : Blk W b0 106 #[.slice none 0 0, .slice none 0 0]
 blk : Blk W g 106 #[cv, ov]
 calls : OwnC W b0 cv cs
 owners : OwnI W b0 ov os
 lt : b0 < g
 low : Below b0 w W
section
variable {w : World} {b0 g : Nat} {cv ov : Value} {cs : List CI} {os : List Int} {W W' w1 : World}
theorem TS.below (h : TS w b0 g cv ov cs os W) (hb : Below W.heap.size W W') : TS w b0 g cv ov cs os W' :=
 ⟨h.res.below hb h.res.lt, h.blk.below hb h.blk.lt, own_below h.calls hb (Nat.le_refl _), own_below h.owners hb (Nat.le_refl _), h.lt, h.low.trans (hb.mono (Nat.le_of_lt h.res.lt))⟩
theorem TS.nc (h : TS w b0 g cv ov cs os W) : cv.ownBlock ≠ some g := blk_apart h.calls h.blk (by decide)
theorem TS.no (h : TS w b0 g cv ov cs os W) : ov.ownBlock ≠ some g := blk_apart h.owners h.blk (by decide)
theorem TS.nc0 (h : TS w b0 g cv ov cs os W) : cv.ownBlock ≠ some b0 := blk_apart h.calls h.res (by decide)
theorem TS.no0 (h : TS w b0 g cv ov cs os W) : ov.ownBlock ≠ some b0 := blk_apart h.owners h.res (by decide)
theorem TS.chgb {C : Nat → Prop} (h : TS w b0 g cv ov cs os W) (hch : Chg C W w1) (hC : ∀ x, C x → b0 ≤ x) : Below b0 w w1 := h.low.trans (hch.below (Nat.le_of_lt h.res.lt) (fun x hx hc => by have := hC x hc; omega))
theorem TS.putOwn {ov' : Value} {os' : List Int} (h : TS w b0 g cv ov cs os W) (hch : Chg (fun x => ov.ownBlock = some x) W w1) (ho : OwnI w1 b0 ov' os') : TS w b0 g cv ov' cs os' (w1.setCell ⟨g, 1, none⟩ ov') :=
 have hb := h.blk.chg hch h.no
 have hr := h.res.chg hch h.no0
 have hc : OwnC w1 b0 cv cs := own_chg h.calls hch (fun x hx => apart h.calls h.owners (by decide) x hx)
 have hl : b0 < g := h.lt
 ⟨hr.far _ _ (by show b0 ≠ g; omega), hb.put 1 _, own_far hc _ _ h.nc, own_far ho _ _ (blk_apart ho hb (by decide)), hl,
  h.chgb ((hch.mono (D := fun x => x = g ∨ ov.ownBlock = some x) (fun _ _ e => .inr e)).put _ _ (.inr (.inl rfl))) (fun x hx => by
   rcases hx with rfl | hx
   ·omega
   ·exact (World.ownsRow.lt h.owners x hx).1)⟩
theorem TS.putCalls {cv' : Value} {cs' : List CI} (h : TS w b0 g cv ov cs os W) (hch : Chg (fun x => cv.ownBlock = some x) W w1) (hc : OwnC w1 b0 cv' cs') : TS w b0 g cv' ov cs' os (w1.setCell ⟨g, 0, none⟩ cv') :=
 have hb := h.blk.chg hch h.nc
 have hr := h.res.chg hch h.nc0
 have ho : OwnI w1 b0 ov os := own_chg h.owners hch (fun x hx => apart h.owners h.calls (by decide) x hx)
 have hl : b0 < g := h.lt
 ⟨hr.far _ _ (by show b0 ≠ g; omega), hb.put 0 _, own_far hc _ _ (blk_apart hc hb (by decide)), own_far ho _ _ h.no, hl,
  h.chgb ((hch.mono (D := fun x => x = g ∨ cv.ownBlock = some x) (fun _ _ e => .inr e)).put _ _ (.inr (.inl rfl))) (fun x hx => by
   rcases hx with rfl | hx
   ·omega
   ·exact (World.ownsRow.lt h.calls x hx).1)⟩
theorem TS.putCall {b cap : Nat} {c c' : CI} {j o : Nat} {u : Value} (h : TS w b0 g (.slice (some ⟨b, 0, none⟩) cs.length cap) ov cs os W) (hj : cs[j]? = some c) (ho : o < 5) (he : (c5 c).set o u = c5 c') :
  TS w b0 g (.slice (some ⟨b, 0, none⟩) cs.length cap) ov (cs.set j c') os (W.setCell ⟨b, j * 5 + o, none⟩ u) := by
 have hb : g ≠ b := fun e => h.nc (by rw [e]; rfl)
 have hb0 : b0 ≠ b := fun e => h.nc0 (by rw [e]; rfl)
 have hl := (World.ownsRow.lt h.calls b rfl).1
 refine ⟨h.res.far _ _ hb0, h.blk.far _ _ hb, ?_, own_far h.owners _ _ (fun e => apart h.owners h.calls (by decide) b e rfl), h.lt, h.chgb ((Chg.refl (fun x => x = b) W).put _ _ (.inr rfl)) (fun x hx => by omega)⟩
 have := own_put5 h.calls hj o u c' ho he
 unfold OwnC
 rwa [List.length_set]
end

end Go.Proofs.Ytgcjlkdahlfjlaa.Read3
