import Derived.Test.YtikdcnlbjpabjabM19
import Derived.Deep.LoopGhost
import Derived.Test.YtikdcnlbjpabjabM3
import Derived.Test.YtikdcnlbjpabjabM15
import Derived.Deep.AppendLies
import Derived.Deep.RegionHeld3
import Derived.Deep.Cut
set_option linter.all false
namespace Go.Proofs.Ytikdcnlbjpabjab.ReadP
open Lib (hid)
open Go.ChangeShapes Go.WideShapes Go.ChangeAt Go.RowKit
open PL Mem Srun Sst IntsP RowC AccP
theorem td_beg {S : PL.Told} {e0 e1 e2 : Int} (h : Beg e0) : td S (e0, e1, e2) = ⟨S.calls ++ [⟨e1, S.now, e0 == 3, 4, 0⟩], S.owners ++ [(S.calls.length : Int)], S.calls.length⟩ := by unfold td; rw [if_pos h]
theorem td_fin {S : PL.Told} {e0 e1 e2 : Int} {c : CI} {j : Nat} (h : Fin e0) (hn : S.now = j) (hc : S.calls[j]? = some c) : td S (e0, e1, e2) = ⟨S.calls.set j ⟨c.f, c.par, c.dfr, endOf e0, e2⟩, S.owners ++ [(j : Int)], c.par⟩ := by
 have hb : ¬ Beg e0 := fun hb => beg_fin hb h
 unfold td
 rw [if_neg hb, if_pos h, hn]
 unfold closeAt parAt
 rw [Int.toNat_natCast, hc]
theorem td_own {S : PL.Told} {e0 e1 e2 : Int} (h : ¬ Beg e0) (h' : ¬ Fin e0) : td S (e0, e1, e2) = ⟨S.calls, S.owners ++ [S.now], S.now⟩ := by unfold td; rw [if_neg h, if_neg h']
theorem leave {g : Nat} {k v s : Int} {tv cv ov : Value} {cs : List CI} {os : List Int} {cur u : Int} {W : World} {R : Ending → World → Prop} {tmps : Array Value} (h : Acc g k v s tv cv ov cs os cur W)
  (hR : ∀ W', Acc g k v s tv cv ov cs os u W' → Below g W W' → R (.returned (.tuple #[])) W') :
  Leaves Try.prog Try.f89 tmps R [{ target := .fn (.func 126) #[], args := #[.pointer (some ⟨g, 0, none⟩), .int .i64 u] }] .returning W := by
 refine leaves_cons (f := 126) (args := #[.pointer (some ⟨g, 0, none⟩), .int .i64 u]) (by simp) (by simp [go_sem]) ?_
 refine (resume_d h u _).mono ?_
 rintro e u' w'' ⟨rfl, rfl, h', b'⟩
 change Leaves _ _ _ _ [] .returning _
 exact ⟨.tuple #[], by simp [results, Try.results89, go_sem], hR _ h' b'⟩
section
variable {g N ct : Nat} {k v s : Int} {At : Option Addr} {t : List Tr}
def ReadR (g N ct : Nat) (k v s : Int) (At : Option Addr) (t : List Tr) (i : Nat) (W : World) (e : Ending) (W' : World) : Prop :=
 ∃ j cv' ov', e = .returned (.tuple #[]) ∧ ReadTo t i j ∧ Acc g k v s (.slice At N ct) cv' ov' (tds (t.take j)).calls (tds (t.take j)).owners (tds (t.take i)).now W' ∧ Below g W W'
set_option maxRecDepth 100000 in
set_option maxHeartbeats 4000000 in
theorem read_any (hw : Whole t) (hN : t.length = N) (hN2 : N ≤ 100000) : ∀ (n i : Nat) (W : World) (cv ov : Value), N - i ≤ n → (∃ e, t[i]? = some e ∧ Beg e.1) →
  Acc g k v s (.slice At N ct) cv ov (tds (t.take i)).calls (tds (t.take i)).owners (tds (t.take i)).now W → Rd3 W g At t →
  Calls Try.prog 89 #[.pointer (some ⟨g, 0, none⟩)] W (ReadR g N ct k v s At t i W)
 | 0, i, W, cv, ov, hn, ⟨e, he, hb⟩, _, _ => by have := (List.getElem?_eq_some_iff.1 he).1; omega
 | n + 1, i, W, cv, ov, hn, ⟨⟨a0, a1, a2⟩, ha, hab⟩, hacc, hr => by
  have hi : i < N := by rw [← hN]; exact (List.getElem?_eq_some_iff.1 ha).1
  have ih := hid (read_any hw hN hN2 n)
  have inv := hw.inv i (by omega)
  have z6 : W.cell? ⟨g, 6, none⟩ = some (.int .i64 (tds (t.take i)).now) := hacc.blk.cells 6
  have hbg := hid (begin_any hacc hr hN (e := (a0, a1, a2)) (by rw [inv.olen]; exact ha) (by rw [inv.olen]; omega) (by have := inv.clen; omega))
  have h1 := tds_take ha
  rw [td_beg hab] at h1
  have HT1 := hid h1
  have HR := hid hr
  have HW := hid hw
  have HRD0 := hid (reading_beg ha hab)
  have hcl : (tds (t.take i)).calls.length ≤ i := inv.clen
  have HHN := hid hN
  clear hacc hr inv h1 ha hab hw hN
  go_enter_defers Try.func89, Try.ntmps89
  go_wp2_with fail
  refine hbg.out.mono ?_
  rintro e W1 ⟨cv1, ov1, rfl, h1, b1⟩
  have H1 := hid (show Acc g k v s (.slice At N ct) cv1 ov1 (tds (t.take (i + 1))).calls (tds (t.take (i + 1))).owners ((tds (t.take i)).calls.length : Int) W1 by rw [HT1.out]; exact h1)
  have B1 := hid b1
  clear h1 b1 hbg z6
  go_wp2_with fail
  go_loopg [] (N - (i + 1)) (fun kk wr => ∃ (j : Nat) (cv' ov' : Value), N - j = kk ∧ Reading t i j ∧ Acc g k v s (.slice At N ct) cv' ov' (tds (t.take j)).calls (tds (t.take j)).owners ((tds (t.take i)).calls.length : Int) wr ∧ Below g W wr)
  case atStart => exact ⟨i + 1, cv1, ov1, rfl, HRD0.out, H1.out, B1.out⟩
  case round =>
   obtain ⟨j, cv2, ov2, hk, hrd, hacc, hb⟩ := hrel
   clear H1 B1 HT1 HRD0
   have hjN : j ≤ N := by have := hrd.2.1; have := HHN.out; omega
   have hij : i < j := hrd.1
   have inv := HW.out.inv j (by have := HHN.out; omega)
   have holen := inv.olen
   have hclen := inv.clen
   obtain ⟨Ao, co, rfl⟩ := own_slice hacc.owners
   have z5 : wr.cell? ⟨g, 5, none⟩ = some (.slice Ao (tds (t.take j)).owners.length co) := hacc.blk.cells 5
   rw [holen] at z5
   have z2 : wr.cell? ⟨g, 2, none⟩ = some (.slice At N ct) := hacc.blk.cells 2
   have H := hid hacc
   have HB := hid hb
   have HRD := hid hrd
   have HOL := hid holen
   have HK := hid hk
   clear hacc hb hrd inv holen hk
   by_cases hlt : j < N
   ·obtain ⟨⟨e0, e1, e2⟩, he⟩ : ∃ e, t[j]? = some e := ⟨_, List.getElem?_eq_getElem (by rw [HHN.out]; exact hlt)⟩
    have HE := hid he
    have hnx := hid (next_any (H.out.below ((Below.refl wr.heap.size wr).drew)) (HR.out.below (HB.out.trans ((Below.refl g wr).drew))) HHN.out (e := (e0, e1, e2)) (by rw [HOL.out]; exact he))
    have HA := hid (fun (V : World) (b : Below wr.drew.heap.size wr.drew V) => H.out.below ((Below.refl wr.heap.size wr).drew.trans b))
    have HBA := hid (fun (V : World) (b : Below wr.drew.heap.size wr.drew V) => HB.out.trans (((Below.refl wr.heap.size wr).drew.trans b).mono (Nat.le_of_lt H.out.lt)))
    have hfld := ev_field0 e0 e1 e2
    clear he H HB
    go_wp2_with fail
    go_region
    all_goals
     clear z2 z5
     go_wp2_with fail
     refine hnx.out.mono ?_
     rintro e' W2 ⟨rfl, b2⟩
     have H2 := hid (HA.out _ b2)
     have B2 := hid (HBA.out _ b2)
     clear b2 hnx HA HBA
     by_cases k1 : Beg e0
     ·have HIH := hid (ih.out j W2 cv2 (.slice Ao (tds (t.take j)).owners.length co) (by omega) ⟨_, HE.out, k1⟩ (by rw [HRD.out.now (by rw [HHN.out]; exact hlt)]; exact H2.out) (HR.out.below B2.out))
      unfold Beg at k1
      rcases k1 with rfl | rfl <;>
      ·go_wp2_with fail
       refine HIH.out.mono ?_
       rintro e' W3 ⟨j', cv3, ov3, rfl, hr3, h3, b3⟩
       have h3' : Acc g k v s (.slice At N ct) cv3 ov3 (tds (t.take j')).calls (tds (t.take j')).owners ((tds (t.take i)).calls.length : Int) W3 := by rw [← HRD.out.now (by rw [HHN.out]; exact hlt)]; exact h3
       have H3 := hid h3'
       have B3 := hid (B2.out.trans b3)
       have hr4 := reading_call HRD.out (by rw [HHN.out]; exact hlt) hr3
       have HR4 := hid hr4
       have hjj : j < j' := hr3.1
       have hjN' : j' ≤ N := by have := hr3.2.1; have := HHN.out; omega
       clear h3 h3' b3 hr3 hr4
       go_wp2_with fail
       go_roundg (N - j')
       case measure => have := HK.out; omega
       case rel => exact ⟨j', cv3, ov3, rfl, HR4.out, H3.out, B3.out⟩
     ·by_cases k2 : Fin e0
      ·obtain ⟨x, hx, hxp⟩ := HRD.out.2.2.2
       have hnow := HRD.out.now (by rw [HHN.out]; exact hlt)
       have hts := tds_take HE.out
       rw [td_fin k2 hnow hx] at hts
       have HTS := hid hts
       have HEND := hid (fun kd => end_any H2.out (HR.out.below B2.out) HHN.out (e := (e0, e1, e2)) (by rw [HOL.out]; exact HE.out) (by rw [HOL.out]; omega) hx (by omega) kd)
       have HRE := hid (reading_end HRD.out HE.out k2)
       clear hts hx hxp hnow
       unfold PL.Fin at k2
       rcases k2 with rfl | rfl | rfl <;>
       ·go_wp2_with fail
        refine (HEND.out _).mono ?_
        rintro e' W3 ⟨cv3, ov3, rfl, h3, b3⟩
        have B3 := hid (B2.out.trans b3)
        have H3 := hid h3
        clear h3 b3
        go_wp2_with fail
        refine leave H3.out ?_
        intro W4 h4 b4
        exact ⟨j + 1, cv3, ov3, rfl, HRE.out, by rw [HTS.out]; exact h4, B3.out.trans b4⟩
      ·have c1 : (e0 == 1) = false := by unfold Beg at k1; simp; omega
       have c3 : (e0 == 3) = false := by unfold Beg at k1; simp; omega
       have c7 : (e0 == 7) = false := by unfold PL.Fin at k2; simp; omega
       have c8 : (e0 == 8) = false := by unfold PL.Fin at k2; simp; omega
       have c9 : (e0 == 9) = false := by unfold PL.Fin at k2; simp; omega
       have hts := tds_take HE.out
       rw [td_own k1 k2, HRD.out.now (by rw [HHN.out]; exact hlt)] at hts
       have HTS := hid hts
       have HRE := hid (reading_own HRD.out HE.out k1 k2)
       have HOWN := hid (own_any H2.out (by rw [HOL.out]; omega))
       clear hts k1 k2
       go_wp2_with fail
       refine HOWN.out.mono ?_
       rintro e' W3 ⟨ov3, rfl, h3, b3⟩
       have B3 := hid (B2.out.trans b3)
       have H3 := hid h3
       clear h3 b3
       go_wp2_with fail
       go_roundg (N - (j + 1))
       case measure => have := HK.out; omega
       case rel => exact ⟨j + 1, cv2, ov3, rfl, HRE.out, by rw [HTS.out]; exact H3.out, B3.out⟩
   ·obtain rfl : j = N := by omega
    have HA := hid (H.out.below ((Below.refl wr.heap.size wr).drew))
    have HBA := hid (HB.out.trans ((Below.refl g wr).drew))
    clear H HB
    go_wp2_with fail
    go_region
    all_goals
     go_wp2_with fail
     refine leave HA.out ?_
     intro W4 h4 b4
     refine ⟨t.length, cv2, _, rfl, ?_, by rw [HHN.out]; exact h4, HBA.out.trans b4⟩
     have hx := HRD.out
     rw [← HHN.out] at hx
     exact reading_all hx
end
end Go.Proofs.Ytikdcnlbjpabjab.ReadP

namespace Go.Proofs.Ytikdcnlbjpabjab.Read3
open Lib (hid)
open Go.ChangeShapes Go.WideShapes Go.ChangeAt Go.RowKit
open PL Mem Srun Sst IntsP RowC
def endK (k : Int) : Int := if k = 7 then 1 else if k = 8 then 2 else if k = 9 then 3 else 0
theorem l3End_any (k : Int) (w : World) : Calls Try.prog 104 #[.int .i64 k] w fun e w' => e = .returned (.int .i64 (endK k)) ∧ w = w' := by
 unfold endK
 by_cases h7 : k = 7
 ·subst h7
  go_enter Try.func104, Try.ntmps104
  go_wp2
  go_ret
  exact ⟨rfl, rfl⟩
 ·have b7 : (k == 7) = false := by simpa using h7
  rw [if_neg h7]
  by_cases h8 : k = 8
  ·subst h8
   go_enter Try.func104, Try.ntmps104
   go_wp2
   go_ret
   exact ⟨rfl, rfl⟩
  ·have b8 : (k == 8) = false := by simpa using h8
   rw [if_neg h8]
   by_cases h9 : k = 9
   ·subst h9
    go_enter Try.func104, Try.ntmps104
    go_wp2
    go_ret
    exact ⟨rfl, rfl⟩
   ·have b9 : (k == 9) = false := by simpa using h9
    rw [if_neg h9]
    clear h7 h8 h9
    go_enter Try.func104, Try.ntmps104
    go_wp2
    go_ret
    exact ⟨rfl, rfl⟩
structure TS (w : World) (b0 g : Nat) (cv ov : Value) (cs : List CI) (os : List Int) (W : World) : Prop where
 res : Blk W b0 110 #[.slice none 0 0, .slice none 0 0]
 blk : Blk W g 110 #[cv, ov]
 calls : OwnC W b0 cv cs
 owners : OwnI W b0 ov os
 lt : b0 < g
 low : Below b0 w W
section
variable {w : World} {b0 g : Nat} {cv ov : Value} {cs : List CI} {os : List Int} {W W' w1 : World}
theorem TS.below (h : TS w b0 g cv ov cs os W) (hb : Below W.heap.size W W') : TS w b0 g cv ov cs os W' :=
 ⟨h.res.below hb h.res.lt, h.blk.below hb h.blk.lt, own_below h.calls hb (Nat.le_refl _), own_below h.owners hb (Nat.le_refl _), h.lt, h.low.trans (hb.mono (Nat.le_of_lt h.res.lt))⟩
theorem TS.nc (h : TS w b0 g cv ov cs os W) : cv.ownBlock ≠ some g := blk_apart h.calls h.blk (by decide)
theorem TS.no (h : TS w b0 g cv ov cs os W) : ov.ownBlock ≠ some g := blk_apart h.owners h.blk (by decide)
theorem TS.nc0 (h : TS w b0 g cv ov cs os W) : cv.ownBlock ≠ some b0 := blk_apart h.calls h.res (by decide)
theorem TS.no0 (h : TS w b0 g cv ov cs os W) : ov.ownBlock ≠ some b0 := blk_apart h.owners h.res (by decide)
theorem TS.chgb {C : Nat → Prop} (h : TS w b0 g cv ov cs os W) (hch : Chg C W w1) (hC : ∀ x, C x → b0 ≤ x) : Below b0 w w1 := h.low.trans (hch.below (Nat.le_of_lt h.res.lt) (fun x hx hc => by have := hC x hc; omega))
theorem TS.putOwn {ov' : Value} {os' : List Int} (h : TS w b0 g cv ov cs os W) (hch : Chg (fun x => ov.ownBlock = some x) W w1) (ho : OwnI w1 b0 ov' os') : TS w b0 g cv ov' cs os' (w1.setCell ⟨g, 1, none⟩ ov') :=
 have hb := h.blk.chg hch h.no
 have hr := h.res.chg hch h.no0
 have hc : OwnC w1 b0 cv cs := own_chg h.calls hch (fun x hx => apart h.calls h.owners (by decide) x hx)
 have hl : b0 < g := h.lt
 ⟨hr.far _ _ (by show b0 ≠ g; omega), hb.put 1 _, own_far hc _ _ h.nc, own_far ho _ _ (blk_apart ho hb (by decide)), hl,
  h.chgb ((hch.mono (D := fun x => x = g ∨ ov.ownBlock = some x) (fun _ _ e => .inr e)).put _ _ (.inr (.inl rfl))) (fun x hx => by
   rcases hx with rfl | hx
   ·omega
   ·exact (World.ownsRow.lt h.owners x hx).1)⟩
theorem TS.putCalls {cv' : Value} {cs' : List CI} (h : TS w b0 g cv ov cs os W) (hch : Chg (fun x => cv.ownBlock = some x) W w1) (hc : OwnC w1 b0 cv' cs') : TS w b0 g cv' ov cs' os (w1.setCell ⟨g, 0, none⟩ cv') :=
 have hb := h.blk.chg hch h.nc
 have hr := h.res.chg hch h.nc0
 have ho : OwnI w1 b0 ov os := own_chg h.owners hch (fun x hx => apart h.owners h.calls (by decide) x hx)
 have hl : b0 < g := h.lt
 ⟨hr.far _ _ (by show b0 ≠ g; omega), hb.put 0 _, own_far hc _ _ (blk_apart hc hb (by decide)), own_far ho _ _ h.no, hl,
  h.chgb ((hch.mono (D := fun x => x = g ∨ cv.ownBlock = some x) (fun _ _ e => .inr e)).put _ _ (.inr (.inl rfl))) (fun x hx => by
   rcases hx with rfl | hx
   ·omega
   ·exact (World.ownsRow.lt h.calls x hx).1)⟩
theorem TS.putCall {b cap : Nat} {c c' : CI} {j o : Nat} {u : Value} (h : TS w b0 g (.slice (some ⟨b, 0, none⟩) cs.length cap) ov cs os W) (hj : cs[j]? = some c) (ho : o < 5) (he : (c5 c).set o u = c5 c') :
  TS w b0 g (.slice (some ⟨b, 0, none⟩) cs.length cap) ov (cs.set j c') os (W.setCell ⟨b, j * 5 + o, none⟩ u) := by
 have hb : g ≠ b := fun e => h.nc (by rw [e]; rfl)
 have hb0 : b0 ≠ b := fun e => h.nc0 (by rw [e]; rfl)
 have hl := (World.ownsRow.lt h.calls b rfl).1
 refine ⟨h.res.far _ _ hb0, h.blk.far _ _ hb, ?_, own_far h.owners _ _ (fun e => apart h.owners h.calls (by decide) b e rfl), h.lt, h.chgb ((Chg.refl (fun x => x = b) W).put _ _ (.inr rfl)) (fun x hx => by omega)⟩
 have := own_put5 h.calls hj o u c' ho he
 unfold OwnC
 rwa [List.length_set]
end
def ToldR (B : PL.Told) (w : World) (e : Ending) (w' : World) : Prop :=
 ∃ Ac cc Ao co, e = .returned (.agg #[.slice Ac B.calls.length cc, .slice Ao B.owners.length co]) ∧ OwnC w' w.heap.size (.slice Ac B.calls.length cc) B.calls ∧ OwnI w' w.heap.size (.slice Ao B.owners.length co) B.owners ∧ Below w.heap.size w w'
set_option maxRecDepth 100000 in
set_option maxHeartbeats 4000000 in
theorem l3Read_any (B N c2 : Nat) (A2 : Option Addr) (t : List Tr) (hw : Whole t) (hN : t.length = N) (hlen : N ≤ 100000) (w : World) (hr : Rd3 w B A2 t) (hB : B ≤ w.heap.size) :
  Calls Try.prog 78 #[.slice A2 N c2] w (ToldR (tds t) w) := by
 obtain ⟨i0, hi, hz0, hz1, hz2⟩ := info_parts info3
 obtain ⟨k0, ki, kz0, kz1, kz2⟩ := info_parts infoC
 have HR := hid (fun V (b : Below w.heap.size w V) => hr.below (b.mono hB))
 have HW := hid hw
 have HN := hid hN
 have hfull := hid (show tds (t.take N) = tds t by rw [← hN, List.take_length])
 clear hr hw hN
 go_enter Try.func78, Try.ntmps78
 go_upto_region 2 with fail
 change (fun V => Code.wp _ _ _ _ V) _
 refine gen_world (X := fun V => TS w w.heap.size (w.heap.size + 1 + 1 + 1) (.slice (some ⟨w.heap.size + 1, 0, none⟩) 0 0) (.slice (some ⟨w.heap.size + 1 + 1, 0, none⟩) 0 0) [] [] V)
  ⟨heap4_0 w _ _ _ _, heap4_3 w _ _ _ _, App.empty_own (heap4_1 w _ _ _ _) (by omega), App.empty_own (heap4_2 w _ _ _ _) (by omega), by omega, ((((Below.refl _ _).alloc (Nat.le_refl _) _).alloc (by simp) _).alloc (by simp <;> omega) _).alloc (by simp <;> omega) _⟩ ?_
 generalize w.heap.size + 1 + 1 + 1 = g
 intro W0 h0
 have H0 := hid h0
 clear h0
 go_wp2_with fail
 go_loopw [4, 5] (fun now i wr => ∃ (j : Nat) (Ac : Option Addr) (cc : Nat) (Ao : Option Addr) (co : Nat), j ≤ N ∧ i = .int .i64 j ∧ now = .int .i64 (tds (t.take j)).now ∧ TS w w.heap.size g (.slice Ac (tds (t.take j)).calls.length cc) (.slice Ao (tds (t.take j)).owners.length co) (tds (t.take j)).calls (tds (t.take j)).owners wr) (fun _ i _ => N - (intOf i).toNat)
 case atStart => exact ⟨0, _, _, _, _, Nat.zero_le _, rfl, rfl, H0.out⟩
 case round =>
  obtain ⟨j, Ac, cc, Ao, co, hj, rfl, rfl, h⟩ := hrel
  clear H0
  have inv := HW.out.inv j (by have := HN.out; omega)
  by_cases hlt : j < N
  ·obtain ⟨⟨e0, e1, e2⟩, hs⟩ : ∃ s, t[j]? = some s := ⟨_, List.getElem?_eq_getElem (by rw [HN.out]; exact hlt)⟩
   obtain ⟨ad, rfl, hab, h0', h1', h2'⟩ := (HR.out wr h.low) j _ hs
   have HT := hid (tds_take hs)
   have hin := fun hb => inv.now (HW.out.at hs hb)
   have hol : (tds (t.take j)).owners.length ≤ 100000 := by rw [inv.olen]; omega
   have hcl : (tds (t.take j)).calls.length ≤ 100000 := by have := inv.clen; omega
   dsimp only at h0' h1' h2' hin
   have HIN := hid hin
   have H := hid h
   clear h hs hin inv
   generalize tds (t.take j) = S at *
   obtain ⟨cs, os, now⟩ := S
   dsimp only at hol hcl H HIN HT ⊢
   go_upto_region 6 with fail
   change (fun V => Code.wp _ _ _ _ V) _
   refine gen_world (X := fun V => TS w w.heap.size g (.slice Ac cs.length cc) (.slice Ao os.length co) cs os V ∧ Blk V wr.heap.size 103 #[.int .i64 e0, .int .i64 e1, .int .i64 e2]) ⟨H.out.below ((Below.refl _ _).alloc (Nat.le_refl _) _), heap1_0 wr _⟩ ?_
   clear H h0' h1' h2'
   generalize wr.heap.size = bx
   rintro V ⟨hV, eV⟩
   have z0 : V.cell? ⟨g, 0, none⟩ = some (.slice Ac cs.length cc) := hV.blk.cells 0
   have z1 : V.cell? ⟨g, 1, none⟩ = some (.slice Ao os.length co) := hV.blk.cells 1
   have y0 : V.cell? ⟨bx, 0, none⟩ = some (.int .i64 e0) := eV.cells 0
   have y1 : V.cell? ⟨bx, 1, none⟩ = some (.int .i64 e1) := eV.cells 1
   have hbg : bx ≠ g := Imem.ne_blk eV hV.blk (by decide)
   have HV := hid hV
   have EV := hid eV
   have hlow := hV.res.lt
   clear hV eV
   by_cases k1 : Beg e0
   ·have HT' := hid (HT.out.trans (ReadP.td_beg k1))
    unfold Beg at k1
    clear HT
    rcases k1 with rfl | rfl
    ·go_wp2_with (at_builtin; refine wpList_append_lies _ rfl _ _ 47 rfl w.heap.size 54 k0 _ 5 40 Try.underlying47 ki kz0 kz1 kz2 rfl (by decide) _ _ _ rfl (World.ownsRow.alloc HV.out.calls _) ⟨V.heap.size, 0, none⟩ 1 1 [.int .i64 e1, .int .i64 now, .bool false, .int .i64 4, .int .i64 0] rfl rfl ?cn_1 ?co_1 (by decide) ?c63_1 ?cb_1 ?cl_1 (V.heap.size + 1) ?cH_1 ?next_1)
     (try (case cn_1 => exact World.news_of_block (cs := #[.int .i64 e1, .int .i64 now, .bool false, .int .i64 4, .int .i64 0]) (t := 54) (fr := (0, 0)) (heap_alloc_new _ _)))
     case co_1 => first | (intro u hu; simp at hu; rcases hu with rfl | rfl | rfl | rfl | rfl <;> rfl) | simp [Value.oneCell']
     case c63_1 => first | (unfold maxLen; omega) | omega
     case cb_1 => omega
     case cl_1 => first | (simp; omega) | omega
     (try (case cH_1 => simp))
     case next_1 =>
      intro g1 cap1 w1 hown1 hgrow1 hat1 hlt1
      have c1 : Chg (fun y => (Value.slice Ac cs.length cc).ownBlock = some y) V w1 := (Chg.alloc _ V _).trans (Chg.of_grown hgrow1) (fun x _ hx => hx.symm)
      have b1 := HV.out.blk.chg c1 HV.out.nc
      have kc : w1.cell? ⟨g, 0, none⟩ = some (.slice Ac cs.length cc) := b1.cells 0
      have f1 := b1.frozen
      have Y1 := hid (EV.out.chg c1 (blk_apart HV.out.calls EV.out (by decide)))
      have ho : OwnC w1 w.heap.size (.slice (some ⟨g1, 0, none⟩) (cs.length + 1) cap1) (cs ++ [⟨e1, now, false, 4, 0⟩]) := by
       unfold OwnC
       rw [List.length_append, List.length_singleton, cells5_append]
       exact hown1
      have H1 := hid (HV.out.putCalls c1 ho)
      clear hown1 hgrow1 hat1 c1 b1 ho HV EV z0 z1 y0 y1
      go_upto_region 8 with fail
      change (fun V => Code.wp _ _ _ _ V) _
      refine gen_world (X := fun U => TS w w.heap.size g (.slice (some ⟨g1, 0, none⟩) (cs.length + 1) cap1) (.slice Ao os.length co) (cs ++ [⟨e1, now, false, 4, 0⟩]) os U ∧ Blk U bx 103 #[.int .i64 1, .int .i64 e1, .int .i64 e2]) ⟨H1.out, Y1.out.far _ _ hbg⟩ ?_
      clear H1 Y1 kc f1
      rintro U ⟨hU, eU⟩
      have z0 : U.cell? ⟨g, 0, none⟩ = some (.slice (some ⟨g1, 0, none⟩) (cs.length + 1) cap1) := hU.blk.cells 0
      have z1 : U.cell? ⟨g, 1, none⟩ = some (.slice Ao os.length co) := hU.blk.cells 1
      have HU := hid hU
      have EV := hid eU
      have hlow := hU.res.lt
      clear hU eU
      go_wp2_with (at_builtin; refine wpList_append_lies _ rfl _ _ 26 rfl w.heap.size 3 i0 _ 1 8 Try.underlying26 hi hz0 hz1 hz2 rfl (by decide) _ _ _ rfl (World.ownsRow.alloc HU.out.owners _) ⟨U.heap.size, 0, none⟩ 1 1 [.int .i64 (cs.length : Int)] rfl rfl ?cn_2 ?co_2 (by decide) ?c63_2 ?cb_2 ?cl_2 (U.heap.size + 1) ?cH_2 ?next_2)
      (try (case cn_2 => exact World.news_of_block (cs := #[.int .i64 (cs.length : Int)]) (t := 3) (fr := (0, 0)) (heap_alloc_new _ _)))
      case co_2 => first | (intro u hu; simp at hu; rcases hu with rfl; rfl) | simp [Value.oneCell']
      case c63_2 => first | (unfold maxLen; omega) | omega
      case cb_2 => omega
      case cl_2 => first | (simp; omega) | omega
      (try (case cH_2 => simp))
      case next_2 =>
       intro g2 cap2 w2 hown2 hgrow2 hat2 hlt2
       have c2 : Chg (fun y => (Value.slice Ao os.length co).ownBlock = some y) U w2 := (Chg.alloc _ U _).trans (Chg.of_grown hgrow2) (fun x _ hx => hx.symm)
       have b2 := HU.out.blk.chg c2 HU.out.no
       have k1 : w2.cell? ⟨g, 1, none⟩ = some (.slice Ao os.length co) := b2.cells 1
       have f1 := b2.frozen
       have Y2 := hid (EV.out.chg c2 (blk_apart HU.out.owners EV.out (by decide)))
       have ho : OwnI w2 w.heap.size (.slice (some ⟨g2, 0, none⟩) (os.length + 1) cap2) (os ++ [(cs.length : Int)]) := by
        unfold OwnI
        rw [List.length_append, List.length_singleton, cellsI_append]
        exact hown2
       have H2 := hid (HU.out.putOwn c2 ho)
       clear hown2 hgrow2 hat2 c2 b2 ho HU EV
       go_upto_region 10 with fail
       change (fun V => Code.wp _ _ _ _ V) _
       refine gen_world (X := fun U => TS w w.heap.size g (.slice (some ⟨g1, 0, none⟩) (cs.length + 1) cap1) (.slice (some ⟨g2, 0, none⟩) (os.length + 1) cap2) (cs ++ [⟨e1, now, false, 4, 0⟩]) (os ++ [(cs.length : Int)]) U ∧ Blk U bx 103 #[.int .i64 1, .int .i64 e1, .int .i64 e2]) ⟨H2.out, Y2.out.far _ _ hbg⟩ ?_
       clear H2 Y2 k1 f1 z0 z1
       rintro X ⟨hX, eX⟩
       have y0 : X.cell? ⟨bx, 0, none⟩ = some (.int .i64 1) := eX.cells 0
       have HX := hid hX
       have HE : Hid (∀ U, Calls Try.prog 104 #[.int .i64 1] U fun e w' => e = .returned (.int .i64 0) ∧ U = w') := hid (fun U => l3End_any 1 U)
       clear hX eX
       go_wp2_with fail
       refine (HE.out _).mono ?_
       rintro e w4 ⟨rfl, rfl⟩
       go_wp2_with fail
       go_roundw
       case rel =>
        refine ⟨j + 1, some ⟨g1, 0, none⟩, cap1, some ⟨g2, 0, none⟩, cap2, by omega, by go_num, by rw [HT'.out], ?_⟩
        rw [HT'.out]
        have hx := HX.out
        simpa using hx
       case measure => simp [intOf]; omega
    ·go_wp2_with (at_builtin; refine wpList_append_lies _ rfl _ _ 47 rfl w.heap.size 54 k0 _ 5 40 Try.underlying47 ki kz0 kz1 kz2 rfl (by decide) _ _ _ rfl (World.ownsRow.alloc HV.out.calls _) ⟨V.heap.size, 0, none⟩ 1 1 [.int .i64 e1, .int .i64 now, .bool true, .int .i64 4, .int .i64 0] rfl rfl ?cn_3 ?co_3 (by decide) ?c63_3 ?cb_3 ?cl_3 (V.heap.size + 1) ?cH_3 ?next_3)
     (try (case cn_3 => exact World.news_of_block (cs := #[.int .i64 e1, .int .i64 now, .bool true, .int .i64 4, .int .i64 0]) (t := 54) (fr := (0, 0)) (heap_alloc_new _ _)))
     case co_3 => first | (intro u hu; simp at hu; rcases hu with rfl | rfl | rfl | rfl | rfl <;> rfl) | simp [Value.oneCell']
     case c63_3 => first | (unfold maxLen; omega) | omega
     case cb_3 => omega
     case cl_3 => first | (simp; omega) | omega
     (try (case cH_3 => simp))
     case next_3 =>
      intro g1 cap1 w1 hown1 hgrow1 hat1 hlt1
      have c1 : Chg (fun y => (Value.slice Ac cs.length cc).ownBlock = some y) V w1 := (Chg.alloc _ V _).trans (Chg.of_grown hgrow1) (fun x _ hx => hx.symm)
      have b1 := HV.out.blk.chg c1 HV.out.nc
      have kc : w1.cell? ⟨g, 0, none⟩ = some (.slice Ac cs.length cc) := b1.cells 0
      have f1 := b1.frozen
      have Y1 := hid (EV.out.chg c1 (blk_apart HV.out.calls EV.out (by decide)))
      have ho : OwnC w1 w.heap.size (.slice (some ⟨g1, 0, none⟩) (cs.length + 1) cap1) (cs ++ [⟨e1, now, true, 4, 0⟩]) := by
       unfold OwnC
       rw [List.length_append, List.length_singleton, cells5_append]
       exact hown1
      have H1 := hid (HV.out.putCalls c1 ho)
      clear hown1 hgrow1 hat1 c1 b1 ho HV EV z0 z1 y0 y1
      go_upto_region 8 with fail
      change (fun V => Code.wp _ _ _ _ V) _
      refine gen_world (X := fun U => TS w w.heap.size g (.slice (some ⟨g1, 0, none⟩) (cs.length + 1) cap1) (.slice Ao os.length co) (cs ++ [⟨e1, now, true, 4, 0⟩]) os U ∧ Blk U bx 103 #[.int .i64 3, .int .i64 e1, .int .i64 e2]) ⟨H1.out, Y1.out.far _ _ hbg⟩ ?_
      clear H1 Y1 kc f1
      rintro U ⟨hU, eU⟩
      have z0 : U.cell? ⟨g, 0, none⟩ = some (.slice (some ⟨g1, 0, none⟩) (cs.length + 1) cap1) := hU.blk.cells 0
      have z1 : U.cell? ⟨g, 1, none⟩ = some (.slice Ao os.length co) := hU.blk.cells 1
      have HU := hid hU
      have EV := hid eU
      have hlow := hU.res.lt
      clear hU eU
      go_wp2_with (at_builtin; refine wpList_append_lies _ rfl _ _ 26 rfl w.heap.size 3 i0 _ 1 8 Try.underlying26 hi hz0 hz1 hz2 rfl (by decide) _ _ _ rfl (World.ownsRow.alloc HU.out.owners _) ⟨U.heap.size, 0, none⟩ 1 1 [.int .i64 (cs.length : Int)] rfl rfl ?cn_4 ?co_4 (by decide) ?c63_4 ?cb_4 ?cl_4 (U.heap.size + 1) ?cH_4 ?next_4)
      (try (case cn_4 => exact World.news_of_block (cs := #[.int .i64 (cs.length : Int)]) (t := 3) (fr := (0, 0)) (heap_alloc_new _ _)))
      case co_4 => first | (intro u hu; simp at hu; rcases hu with rfl; rfl) | simp [Value.oneCell']
      case c63_4 => first | (unfold maxLen; omega) | omega
      case cb_4 => omega
      case cl_4 => first | (simp; omega) | omega
      (try (case cH_4 => simp))
      case next_4 =>
       intro g2 cap2 w2 hown2 hgrow2 hat2 hlt2
       have c2 : Chg (fun y => (Value.slice Ao os.length co).ownBlock = some y) U w2 := (Chg.alloc _ U _).trans (Chg.of_grown hgrow2) (fun x _ hx => hx.symm)
       have b2 := HU.out.blk.chg c2 HU.out.no
       have k1 : w2.cell? ⟨g, 1, none⟩ = some (.slice Ao os.length co) := b2.cells 1
       have f1 := b2.frozen
       have Y2 := hid (EV.out.chg c2 (blk_apart HU.out.owners EV.out (by decide)))
       have ho : OwnI w2 w.heap.size (.slice (some ⟨g2, 0, none⟩) (os.length + 1) cap2) (os ++ [(cs.length : Int)]) := by
        unfold OwnI
        rw [List.length_append, List.length_singleton, cellsI_append]
        exact hown2
       have H2 := hid (HU.out.putOwn c2 ho)
       clear hown2 hgrow2 hat2 c2 b2 ho HU EV
       go_upto_region 10 with fail
       change (fun V => Code.wp _ _ _ _ V) _
       refine gen_world (X := fun U => TS w w.heap.size g (.slice (some ⟨g1, 0, none⟩) (cs.length + 1) cap1) (.slice (some ⟨g2, 0, none⟩) (os.length + 1) cap2) (cs ++ [⟨e1, now, true, 4, 0⟩]) (os ++ [(cs.length : Int)]) U ∧ Blk U bx 103 #[.int .i64 3, .int .i64 e1, .int .i64 e2]) ⟨H2.out, Y2.out.far _ _ hbg⟩ ?_
       clear H2 Y2 k1 f1 z0 z1
       rintro X ⟨hX, eX⟩
       have y0 : X.cell? ⟨bx, 0, none⟩ = some (.int .i64 3) := eX.cells 0
       have HX := hid hX
       have HE : Hid (∀ U, Calls Try.prog 104 #[.int .i64 3] U fun e w' => e = .returned (.int .i64 0) ∧ U = w') := hid (fun U => l3End_any 3 U)
       clear hX eX
       go_wp2_with fail
       refine (HE.out _).mono ?_
       rintro e w4 ⟨rfl, rfl⟩
       go_wp2_with fail
       go_roundw
       case rel =>
        refine ⟨j + 1, some ⟨g1, 0, none⟩, cap1, some ⟨g2, 0, none⟩, cap2, by omega, by go_num, by rw [HT'.out], ?_⟩
        rw [HT'.out]
        have hx := HX.out
        simpa using hx
       case measure => simp [intOf]; omega
   ·by_cases k2 : PL.Fin e0
    ·obtain ⟨n0, c, hc⟩ := HIN.out k1
     obtain ⟨nj, rfl⟩ : ∃ nj : Nat, now = nj := ⟨now.toNat, by omega⟩
     rw [Int.toNat_natCast] at hc
     have HT' := hid (HT.out.trans (ReadP.td_fin k2 rfl hc))
     have hnl : nj < cs.length := (List.getElem?_eq_some_iff.1 hc).1
     obtain ⟨b, cap9, hv⟩ : ∃ b cap, (Value.slice Ac cs.length cc) = .slice (some ⟨b, 0, none⟩) cs.length cap := by
      rcases own_form HV.out.calls with ⟨h0, _⟩ | ⟨_, b, cap, hv, _⟩
      ·omega
      ·exact ⟨b, cap, hv⟩
     simp only [Value.slice.injEq, true_and] at hv
     obtain ⟨rfl, rfl⟩ := hv
     have HC := hid hc
     unfold PL.Fin at k2
     clear HT HIN hc n0
     rcases k2 with rfl | rfl | rfl
     ·go_wp2_with (at_builtin; refine wpList_append_lies _ rfl _ _ 26 rfl w.heap.size 3 i0 _ 1 8 Try.underlying26 hi hz0 hz1 hz2 rfl (by decide) _ _ _ rfl (World.ownsRow.alloc HV.out.owners _) ⟨V.heap.size, 0, none⟩ 1 1 [.int .i64 (nj : Int)] rfl rfl ?cn_5 ?co_5 (by decide) ?c63_5 ?cb_5 ?cl_5 (V.heap.size + 1) ?cH_5 ?next_5)
      (try (case cn_5 => exact World.news_of_block (cs := #[.int .i64 (nj : Int)]) (t := 3) (fr := (0, 0)) (heap_alloc_new _ _)))
      case co_5 => first | (intro u hu; simp at hu; rcases hu with rfl; rfl) | simp [Value.oneCell']
      case c63_5 => first | (unfold maxLen; omega) | omega
      case cb_5 => omega
      case cl_5 => first | (simp; omega) | omega
      (try (case cH_5 => simp))
      case next_5 =>
       intro g2 cap2 w2 hown2 hgrow2 hat2 hlt2
       have c2 : Chg (fun y => (Value.slice Ao os.length co).ownBlock = some y) V w2 := (Chg.alloc _ V _).trans (Chg.of_grown hgrow2) (fun x _ hx => hx.symm)
       have b2 := HV.out.blk.chg c2 HV.out.no
       have k1 : w2.cell? ⟨g, 1, none⟩ = some (.slice Ao os.length co) := b2.cells 1
       have f1 := b2.frozen
       have Y2 := hid (EV.out.chg c2 (blk_apart HV.out.owners EV.out (by decide)))
       have ho : OwnI w2 w.heap.size (.slice (some ⟨g2, 0, none⟩) (os.length + 1) cap2) (os ++ [(nj : Int)]) := by
        unfold OwnI
        rw [List.length_append, List.length_singleton, cellsI_append]
        exact hown2
       have H2 := hid (HV.out.putOwn c2 ho)
       clear hown2 hgrow2 hat2 c2 b2 ho HV EV
       go_upto_region 10 with fail
       change (fun V => Code.wp _ _ _ _ V) _
       refine gen_world (X := fun U => TS w w.heap.size g (.slice (some ⟨b, 0, none⟩) cs.length cc) (.slice (some ⟨g2, 0, none⟩) (os.length + 1) cap2) cs (os ++ [(nj : Int)]) U ∧ Blk U bx 103 #[.int .i64 7, .int .i64 e1, .int .i64 e2]) ⟨H2.out, Y2.out.far _ _ hbg⟩ ?_
       clear H2 Y2 k1 f1 z0 z1
       rintro X ⟨hX, eX⟩
       have y0 : X.cell? ⟨bx, 0, none⟩ = some (.int .i64 7) := eX.cells 0
       have HX := hid hX
       have HE : Hid (∀ U, Calls Try.prog 104 #[.int .i64 7] U fun e w' => e = .returned (.int .i64 1) ∧ U = w') := hid (fun U => l3End_any 7 U)
       have x0 : X.cell? ⟨g, 0, none⟩ = some (.slice (some ⟨b, 0, none⟩) cs.length cc) := hX.blk.cells 0
       obtain ⟨q0, q1, q2, q3, q4⟩ := own_cell5 hX.calls HC.out
       have fz := hX.calls.frozenAt
       have EX := hid eX
       clear hX eX y1
       go_wp2_with fail
       refine (HE.out _).mono ?_
       rintro e w4 ⟨rfl, rfl⟩
       have HX1 := hid (HX.out.putCall (c' := ⟨c.f, c.par, c.dfr, 1, c.val⟩) (u := .int .i64 1) (o := 3) HC.out (by decide) rfl)
       have hbb : bx ≠ b := fun h => blk_apart HX.out.calls EX.out (by decide) (by rw [h]; rfl)
       go_upto_region 13 with fail
       change (fun V => Code.wp _ _ _ _ V) _
       refine gen_world (X := fun U => TS w w.heap.size g (.slice (some ⟨b, 0, none⟩) (cs.set nj ⟨c.f, c.par, c.dfr, 1, c.val⟩).length cc) (.slice (some ⟨g2, 0, none⟩) (os.length + 1) cap2) (cs.set nj ⟨c.f, c.par, c.dfr, 1, c.val⟩) (os ++ [(nj : Int)]) U ∧ Blk U bx 103 #[.int .i64 7, .int .i64 e1, .int .i64 e2]) ⟨by rw [List.length_set]; exact HX1.out, EX.out.far _ _ hbb⟩ ?_
       clear HX1 HX EX q0 q1 q2 q3 q4 fz x0 y0
       rintro Y ⟨hY, eY⟩
       have HC2 := hid (show (cs.set nj ⟨c.f, c.par, c.dfr, 1, c.val⟩)[nj]? = some ⟨c.f, c.par, c.dfr, 1, c.val⟩ from List.getElem?_set_self hnl)
       have HSS := hid (show (cs.set nj ⟨c.f, c.par, c.dfr, 1, c.val⟩).set nj ⟨c.f, c.par, c.dfr, 1, e2⟩ = cs.set nj ⟨c.f, c.par, c.dfr, 1, e2⟩ from List.set_set _)
       have hnl2 : nj < (cs.set nj ⟨c.f, c.par, c.dfr, 1, c.val⟩).length := by rw [List.length_set]; exact hnl
       generalize cs.set nj ⟨c.f, c.par, c.dfr, 1, c.val⟩ = cs2 at *
       have x0 : Y.cell? ⟨g, 0, none⟩ = some (.slice (some ⟨b, 0, none⟩) cs2.length cc) := hY.blk.cells 0
       have y2 : Y.cell? ⟨bx, 2, none⟩ = some (.int .i64 e2) := eY.cells 2
       obtain ⟨q0, q1, q2, q3, q4⟩ := own_cell5 hY.calls HC2.out
       have fz := hY.calls.frozenAt
       have HY1 := hid (hY.putCall (c' := ⟨c.f, c.par, c.dfr, 1, e2⟩) (u := .int .i64 e2) (o := 4) HC2.out (by decide) rfl)
       have HC3 := hid (show (cs2.set nj ⟨c.f, c.par, c.dfr, 1, e2⟩)[nj]? = some ⟨c.f, c.par, c.dfr, 1, e2⟩ from List.getElem?_set_self hnl2)
       have hl3 : (cs2.set nj ⟨c.f, c.par, c.dfr, 1, e2⟩).length = cs2.length := List.length_set
       clear hY eY
       go_upto_region 14 with fail
       change (fun V => Code.wp _ _ _ _ V) _
       refine gen_world (X := fun U => TS w w.heap.size g (.slice (some ⟨b, 0, none⟩) (cs2.set nj ⟨c.f, c.par, c.dfr, 1, e2⟩).length cc) (.slice (some ⟨g2, 0, none⟩) (os.length + 1) cap2) (cs2.set nj ⟨c.f, c.par, c.dfr, 1, e2⟩) (os ++ [(nj : Int)]) U) (by rw [hl3]; exact HY1.out) ?_
       rw [HSS.out] at HC3 ⊢
       clear HY1 q0 q1 q2 q3 q4 fz x0 y2 HC2 HSS hl3 hnl2
       intro Z hZ
       have hnl3 : nj < (cs.set nj ⟨c.f, c.par, c.dfr, 1, e2⟩).length := by rw [List.length_set]; exact hnl
       have x0 : Z.cell? ⟨g, 0, none⟩ = some (.slice (some ⟨b, 0, none⟩) (cs.set nj ⟨c.f, c.par, c.dfr, 1, e2⟩).length cc) := hZ.blk.cells 0
       obtain ⟨q0, q1, q2, q3, q4⟩ := own_cell5 hZ.calls HC3.out
       have HZ := hid hZ
       dsimp only at q1
       clear hZ q0 q2 q3 q4 HC3
       go_wp2_with fail
       go_roundw
       case rel =>
        refine ⟨j + 1, some ⟨b, 0, none⟩, cc, some ⟨g2, 0, none⟩, cap2, by omega, by go_num, by rw [HT'.out], ?_⟩
        rw [HT'.out]
        have hx := HZ.out
        simpa [endOf] using hx
       case measure => simp [intOf]; omega
     ·go_wp2_with (at_builtin; refine wpList_append_lies _ rfl _ _ 26 rfl w.heap.size 3 i0 _ 1 8 Try.underlying26 hi hz0 hz1 hz2 rfl (by decide) _ _ _ rfl (World.ownsRow.alloc HV.out.owners _) ⟨V.heap.size, 0, none⟩ 1 1 [.int .i64 (nj : Int)] rfl rfl ?cn_6 ?co_6 (by decide) ?c63_6 ?cb_6 ?cl_6 (V.heap.size + 1) ?cH_6 ?next_6)
      (try (case cn_6 => exact World.news_of_block (cs := #[.int .i64 (nj : Int)]) (t := 3) (fr := (0, 0)) (heap_alloc_new _ _)))
      case co_6 => first | (intro u hu; simp at hu; rcases hu with rfl; rfl) | simp [Value.oneCell']
      case c63_6 => first | (unfold maxLen; omega) | omega
      case cb_6 => omega
      case cl_6 => first | (simp; omega) | omega
      (try (case cH_6 => simp))
      case next_6 =>
       intro g2 cap2 w2 hown2 hgrow2 hat2 hlt2
       have c2 : Chg (fun y => (Value.slice Ao os.length co).ownBlock = some y) V w2 := (Chg.alloc _ V _).trans (Chg.of_grown hgrow2) (fun x _ hx => hx.symm)
       have b2 := HV.out.blk.chg c2 HV.out.no
       have k1 : w2.cell? ⟨g, 1, none⟩ = some (.slice Ao os.length co) := b2.cells 1
       have f1 := b2.frozen
       have Y2 := hid (EV.out.chg c2 (blk_apart HV.out.owners EV.out (by decide)))
       have ho : OwnI w2 w.heap.size (.slice (some ⟨g2, 0, none⟩) (os.length + 1) cap2) (os ++ [(nj : Int)]) := by
        unfold OwnI
        rw [List.length_append, List.length_singleton, cellsI_append]
        exact hown2
       have H2 := hid (HV.out.putOwn c2 ho)
       clear hown2 hgrow2 hat2 c2 b2 ho HV EV
       go_upto_region 10 with fail
       change (fun V => Code.wp _ _ _ _ V) _
       refine gen_world (X := fun U => TS w w.heap.size g (.slice (some ⟨b, 0, none⟩) cs.length cc) (.slice (some ⟨g2, 0, none⟩) (os.length + 1) cap2) cs (os ++ [(nj : Int)]) U ∧ Blk U bx 103 #[.int .i64 8, .int .i64 e1, .int .i64 e2]) ⟨H2.out, Y2.out.far _ _ hbg⟩ ?_
       clear H2 Y2 k1 f1 z0 z1
       rintro X ⟨hX, eX⟩
       have y0 : X.cell? ⟨bx, 0, none⟩ = some (.int .i64 8) := eX.cells 0
       have HX := hid hX
       have HE : Hid (∀ U, Calls Try.prog 104 #[.int .i64 8] U fun e w' => e = .returned (.int .i64 2) ∧ U = w') := hid (fun U => l3End_any 8 U)
       have x0 : X.cell? ⟨g, 0, none⟩ = some (.slice (some ⟨b, 0, none⟩) cs.length cc) := hX.blk.cells 0
       obtain ⟨q0, q1, q2, q3, q4⟩ := own_cell5 hX.calls HC.out
       have fz := hX.calls.frozenAt
       have EX := hid eX
       clear hX eX y1
       go_wp2_with fail
       refine (HE.out _).mono ?_
       rintro e w4 ⟨rfl, rfl⟩
       have HX1 := hid (HX.out.putCall (c' := ⟨c.f, c.par, c.dfr, 2, c.val⟩) (u := .int .i64 2) (o := 3) HC.out (by decide) rfl)
       have hbb : bx ≠ b := fun h => blk_apart HX.out.calls EX.out (by decide) (by rw [h]; rfl)
       go_upto_region 13 with fail
       change (fun V => Code.wp _ _ _ _ V) _
       refine gen_world (X := fun U => TS w w.heap.size g (.slice (some ⟨b, 0, none⟩) (cs.set nj ⟨c.f, c.par, c.dfr, 2, c.val⟩).length cc) (.slice (some ⟨g2, 0, none⟩) (os.length + 1) cap2) (cs.set nj ⟨c.f, c.par, c.dfr, 2, c.val⟩) (os ++ [(nj : Int)]) U ∧ Blk U bx 103 #[.int .i64 8, .int .i64 e1, .int .i64 e2]) ⟨by rw [List.length_set]; exact HX1.out, EX.out.far _ _ hbb⟩ ?_
       clear HX1 HX EX q0 q1 q2 q3 q4 fz x0 y0
       rintro Y ⟨hY, eY⟩
       have HC2 := hid (show (cs.set nj ⟨c.f, c.par, c.dfr, 2, c.val⟩)[nj]? = some ⟨c.f, c.par, c.dfr, 2, c.val⟩ from List.getElem?_set_self hnl)
       have HSS := hid (show (cs.set nj ⟨c.f, c.par, c.dfr, 2, c.val⟩).set nj ⟨c.f, c.par, c.dfr, 2, e2⟩ = cs.set nj ⟨c.f, c.par, c.dfr, 2, e2⟩ from List.set_set _)
       have hnl2 : nj < (cs.set nj ⟨c.f, c.par, c.dfr, 2, c.val⟩).length := by rw [List.length_set]; exact hnl
       generalize cs.set nj ⟨c.f, c.par, c.dfr, 2, c.val⟩ = cs2 at *
       have x0 : Y.cell? ⟨g, 0, none⟩ = some (.slice (some ⟨b, 0, none⟩) cs2.length cc) := hY.blk.cells 0
       have y2 : Y.cell? ⟨bx, 2, none⟩ = some (.int .i64 e2) := eY.cells 2
       obtain ⟨q0, q1, q2, q3, q4⟩ := own_cell5 hY.calls HC2.out
       have fz := hY.calls.frozenAt
       have HY1 := hid (hY.putCall (c' := ⟨c.f, c.par, c.dfr, 2, e2⟩) (u := .int .i64 e2) (o := 4) HC2.out (by decide) rfl)
       have HC3 := hid (show (cs2.set nj ⟨c.f, c.par, c.dfr, 2, e2⟩)[nj]? = some ⟨c.f, c.par, c.dfr, 2, e2⟩ from List.getElem?_set_self hnl2)
       have hl3 : (cs2.set nj ⟨c.f, c.par, c.dfr, 2, e2⟩).length = cs2.length := List.length_set
       clear hY eY
       go_upto_region 14 with fail
       change (fun V => Code.wp _ _ _ _ V) _
       refine gen_world (X := fun U => TS w w.heap.size g (.slice (some ⟨b, 0, none⟩) (cs2.set nj ⟨c.f, c.par, c.dfr, 2, e2⟩).length cc) (.slice (some ⟨g2, 0, none⟩) (os.length + 1) cap2) (cs2.set nj ⟨c.f, c.par, c.dfr, 2, e2⟩) (os ++ [(nj : Int)]) U) (by rw [hl3]; exact HY1.out) ?_
       rw [HSS.out] at HC3 ⊢
       clear HY1 q0 q1 q2 q3 q4 fz x0 y2 HC2 HSS hl3 hnl2
       intro Z hZ
       have hnl3 : nj < (cs.set nj ⟨c.f, c.par, c.dfr, 2, e2⟩).length := by rw [List.length_set]; exact hnl
       have x0 : Z.cell? ⟨g, 0, none⟩ = some (.slice (some ⟨b, 0, none⟩) (cs.set nj ⟨c.f, c.par, c.dfr, 2, e2⟩).length cc) := hZ.blk.cells 0
       obtain ⟨q0, q1, q2, q3, q4⟩ := own_cell5 hZ.calls HC3.out
       have HZ := hid hZ
       dsimp only at q1
       clear hZ q0 q2 q3 q4 HC3
       go_wp2_with fail
       go_roundw
       case rel =>
        refine ⟨j + 1, some ⟨b, 0, none⟩, cc, some ⟨g2, 0, none⟩, cap2, by omega, by go_num, by rw [HT'.out], ?_⟩
        rw [HT'.out]
        have hx := HZ.out
        simpa [endOf] using hx
       case measure => simp [intOf]; omega
     ·go_wp2_with (at_builtin; refine wpList_append_lies _ rfl _ _ 26 rfl w.heap.size 3 i0 _ 1 8 Try.underlying26 hi hz0 hz1 hz2 rfl (by decide) _ _ _ rfl (World.ownsRow.alloc HV.out.owners _) ⟨V.heap.size, 0, none⟩ 1 1 [.int .i64 (nj : Int)] rfl rfl ?cn_7 ?co_7 (by decide) ?c63_7 ?cb_7 ?cl_7 (V.heap.size + 1) ?cH_7 ?next_7)
      (try (case cn_7 => exact World.news_of_block (cs := #[.int .i64 (nj : Int)]) (t := 3) (fr := (0, 0)) (heap_alloc_new _ _)))
      case co_7 => first | (intro u hu; simp at hu; rcases hu with rfl; rfl) | simp [Value.oneCell']
      case c63_7 => first | (unfold maxLen; omega) | omega
      case cb_7 => omega
      case cl_7 => first | (simp; omega) | omega
      (try (case cH_7 => simp))
      case next_7 =>
       intro g2 cap2 w2 hown2 hgrow2 hat2 hlt2
       have c2 : Chg (fun y => (Value.slice Ao os.length co).ownBlock = some y) V w2 := (Chg.alloc _ V _).trans (Chg.of_grown hgrow2) (fun x _ hx => hx.symm)
       have b2 := HV.out.blk.chg c2 HV.out.no
       have k1 : w2.cell? ⟨g, 1, none⟩ = some (.slice Ao os.length co) := b2.cells 1
       have f1 := b2.frozen
       have Y2 := hid (EV.out.chg c2 (blk_apart HV.out.owners EV.out (by decide)))
       have ho : OwnI w2 w.heap.size (.slice (some ⟨g2, 0, none⟩) (os.length + 1) cap2) (os ++ [(nj : Int)]) := by
        unfold OwnI
        rw [List.length_append, List.length_singleton, cellsI_append]
        exact hown2
       have H2 := hid (HV.out.putOwn c2 ho)
       clear hown2 hgrow2 hat2 c2 b2 ho HV EV
       go_upto_region 10 with fail
       change (fun V => Code.wp _ _ _ _ V) _
       refine gen_world (X := fun U => TS w w.heap.size g (.slice (some ⟨b, 0, none⟩) cs.length cc) (.slice (some ⟨g2, 0, none⟩) (os.length + 1) cap2) cs (os ++ [(nj : Int)]) U ∧ Blk U bx 103 #[.int .i64 9, .int .i64 e1, .int .i64 e2]) ⟨H2.out, Y2.out.far _ _ hbg⟩ ?_
       clear H2 Y2 k1 f1 z0 z1
       rintro X ⟨hX, eX⟩
       have y0 : X.cell? ⟨bx, 0, none⟩ = some (.int .i64 9) := eX.cells 0
       have HX := hid hX
       have HE : Hid (∀ U, Calls Try.prog 104 #[.int .i64 9] U fun e w' => e = .returned (.int .i64 3) ∧ U = w') := hid (fun U => l3End_any 9 U)
       have x0 : X.cell? ⟨g, 0, none⟩ = some (.slice (some ⟨b, 0, none⟩) cs.length cc) := hX.blk.cells 0
       obtain ⟨q0, q1, q2, q3, q4⟩ := own_cell5 hX.calls HC.out
       have fz := hX.calls.frozenAt
       have EX := hid eX
       clear hX eX y1
       go_wp2_with fail
       refine (HE.out _).mono ?_
       rintro e w4 ⟨rfl, rfl⟩
       have HX1 := hid (HX.out.putCall (c' := ⟨c.f, c.par, c.dfr, 3, c.val⟩) (u := .int .i64 3) (o := 3) HC.out (by decide) rfl)
       have hbb : bx ≠ b := fun h => blk_apart HX.out.calls EX.out (by decide) (by rw [h]; rfl)
       go_upto_region 13 with fail
       change (fun V => Code.wp _ _ _ _ V) _
       refine gen_world (X := fun U => TS w w.heap.size g (.slice (some ⟨b, 0, none⟩) (cs.set nj ⟨c.f, c.par, c.dfr, 3, c.val⟩).length cc) (.slice (some ⟨g2, 0, none⟩) (os.length + 1) cap2) (cs.set nj ⟨c.f, c.par, c.dfr, 3, c.val⟩) (os ++ [(nj : Int)]) U ∧ Blk U bx 103 #[.int .i64 9, .int .i64 e1, .int .i64 e2]) ⟨by rw [List.length_set]; exact HX1.out, EX.out.far _ _ hbb⟩ ?_
       clear HX1 HX EX q0 q1 q2 q3 q4 fz x0 y0
       rintro Y ⟨hY, eY⟩
       have HC2 := hid (show (cs.set nj ⟨c.f, c.par, c.dfr, 3, c.val⟩)[nj]? = some ⟨c.f, c.par, c.dfr, 3, c.val⟩ from List.getElem?_set_self hnl)
       have HSS := hid (show (cs.set nj ⟨c.f, c.par, c.dfr, 3, c.val⟩).set nj ⟨c.f, c.par, c.dfr, 3, e2⟩ = cs.set nj ⟨c.f, c.par, c.dfr, 3, e2⟩ from List.set_set _)
       have hnl2 : nj < (cs.set nj ⟨c.f, c.par, c.dfr, 3, c.val⟩).length := by rw [List.length_set]; exact hnl
       generalize cs.set nj ⟨c.f, c.par, c.dfr, 3, c.val⟩ = cs2 at *
       have x0 : Y.cell? ⟨g, 0, none⟩ = some (.slice (some ⟨b, 0, none⟩) cs2.length cc) := hY.blk.cells 0
       have y2 : Y.cell? ⟨bx, 2, none⟩ = some (.int .i64 e2) := eY.cells 2
       obtain ⟨q0, q1, q2, q3, q4⟩ := own_cell5 hY.calls HC2.out
       have fz := hY.calls.frozenAt
       have HY1 := hid (hY.putCall (c' := ⟨c.f, c.par, c.dfr, 3, e2⟩) (u := .int .i64 e2) (o := 4) HC2.out (by decide) rfl)
       have HC3 := hid (show (cs2.set nj ⟨c.f, c.par, c.dfr, 3, e2⟩)[nj]? = some ⟨c.f, c.par, c.dfr, 3, e2⟩ from List.getElem?_set_self hnl2)
       have hl3 : (cs2.set nj ⟨c.f, c.par, c.dfr, 3, e2⟩).length = cs2.length := List.length_set
       clear hY eY
       go_upto_region 14 with fail
       change (fun V => Code.wp _ _ _ _ V) _
       refine gen_world (X := fun U => TS w w.heap.size g (.slice (some ⟨b, 0, none⟩) (cs2.set nj ⟨c.f, c.par, c.dfr, 3, e2⟩).length cc) (.slice (some ⟨g2, 0, none⟩) (os.length + 1) cap2) (cs2.set nj ⟨c.f, c.par, c.dfr, 3, e2⟩) (os ++ [(nj : Int)]) U) (by rw [hl3]; exact HY1.out) ?_
       rw [HSS.out] at HC3 ⊢
       clear HY1 q0 q1 q2 q3 q4 fz x0 y2 HC2 HSS hl3 hnl2
       intro Z hZ
       have hnl3 : nj < (cs.set nj ⟨c.f, c.par, c.dfr, 3, e2⟩).length := by rw [List.length_set]; exact hnl
       have x0 : Z.cell? ⟨g, 0, none⟩ = some (.slice (some ⟨b, 0, none⟩) (cs.set nj ⟨c.f, c.par, c.dfr, 3, e2⟩).length cc) := hZ.blk.cells 0
       obtain ⟨q0, q1, q2, q3, q4⟩ := own_cell5 hZ.calls HC3.out
       have HZ := hid hZ
       dsimp only at q1
       clear hZ q0 q2 q3 q4 HC3
       go_wp2_with fail
       go_roundw
       case rel =>
        refine ⟨j + 1, some ⟨b, 0, none⟩, cc, some ⟨g2, 0, none⟩, cap2, by omega, by go_num, by rw [HT'.out], ?_⟩
        rw [HT'.out]
        have hx := HZ.out
        simpa [endOf] using hx
       case measure => simp [intOf]; omega
    ·have HT' := hid (HT.out.trans (ReadP.td_own k1 k2))
     have c1 : (e0 == 1) = false := by unfold Beg at k1; simp; omega
     have c3 : (e0 == 3) = false := by unfold Beg at k1; simp; omega
     have hE : ∀ U, Calls Try.prog 104 #[.int .i64 e0] U fun e w' => e = .returned (.int .i64 0) ∧ U = w' := fun U => by
      have := l3End_any e0 U
      rwa [show endK e0 = 0 by unfold PL.Fin at k2; unfold endK; rw [if_neg (by omega), if_neg (by omega), if_neg (by omega)]] at this
     have HE := hid hE
     clear HT HIN k1 k2 hE
     go_wp2_with (at_builtin; refine wpList_append_lies _ rfl _ _ 26 rfl w.heap.size 3 i0 _ 1 8 Try.underlying26 hi hz0 hz1 hz2 rfl (by decide) _ _ _ rfl (World.ownsRow.alloc HV.out.owners _) ⟨V.heap.size, 0, none⟩ 1 1 [.int .i64 now] rfl rfl ?cn_8 ?co_8 (by decide) ?c63_8 ?cb_8 ?cl_8 (V.heap.size + 1) ?cH_8 ?next_8)
     (try (case cn_8 => exact World.news_of_block (cs := #[.int .i64 now]) (t := 3) (fr := (0, 0)) (heap_alloc_new _ _)))
     case co_8 => first | (intro u hu; simp at hu; rcases hu with rfl; rfl) | simp [Value.oneCell']
     case c63_8 => first | (unfold maxLen; omega) | omega
     case cb_8 => omega
     case cl_8 => first | (simp; omega) | omega
     (try (case cH_8 => simp))
     case next_8 =>
      intro g2 cap2 w2 hown2 hgrow2 hat2 hlt2
      have c2 : Chg (fun y => (Value.slice Ao os.length co).ownBlock = some y) V w2 := (Chg.alloc _ V _).trans (Chg.of_grown hgrow2) (fun x _ hx => hx.symm)
      have b2 := HV.out.blk.chg c2 HV.out.no
      have k1 : w2.cell? ⟨g, 1, none⟩ = some (.slice Ao os.length co) := b2.cells 1
      have f1 := b2.frozen
      have Y2 := hid (EV.out.chg c2 (blk_apart HV.out.owners EV.out (by decide)))
      have ho : OwnI w2 w.heap.size (.slice (some ⟨g2, 0, none⟩) (os.length + 1) cap2) (os ++ [now]) := by
       unfold OwnI
       rw [List.length_append, List.length_singleton, cellsI_append]
       exact hown2
      have H2 := hid (HV.out.putOwn c2 ho)
      clear hown2 hgrow2 hat2 c2 b2 ho HV EV
      go_upto_region 10 with fail
      change (fun V => Code.wp _ _ _ _ V) _
      refine gen_world (X := fun U => TS w w.heap.size g (.slice Ac cs.length cc) (.slice (some ⟨g2, 0, none⟩) (os.length + 1) cap2) cs (os ++ [now]) U ∧ Blk U bx 103 #[.int .i64 e0, .int .i64 e1, .int .i64 e2]) ⟨H2.out, Y2.out.far _ _ hbg⟩ ?_
      clear H2 Y2 k1 f1 z0 z1
      rintro X ⟨hX, eX⟩
      have y0 : X.cell? ⟨bx, 0, none⟩ = some (.int .i64 e0) := eX.cells 0
      have HX := hid hX
      clear hX eX y1
      go_wp2_with fail
      refine (HE.out _).mono ?_
      rintro e w4 ⟨rfl, rfl⟩
      go_wp2_with fail
      go_roundw
      case rel =>
       refine ⟨j + 1, Ac, cc, some ⟨g2, 0, none⟩, cap2, by omega, by go_num, by rw [HT'.out], ?_⟩
       rw [HT'.out]
       have hx := HX.out
       simpa using hx
      case measure => simp [intOf]; omega
  ·obtain rfl : j = N := by omega
   rw [hfull.out] at h ⊢
   have H := hid h
   have zr := h.res.cells
   have fr := h.res.frozen
   have zb := h.blk.cells
   clear h inv
   go_wp2_with fail
   have hf := (H.out.res.put 0 (.slice Ac (tds t).calls.length cc)).put 1 (.slice Ao (tds t).owners.length co)
   simp only [List.setIfInBounds_toArray, List.set_cons_zero, List.set_cons_succ] at hf
   have hc := hf.cells
   have hch : Chg (fun x => x = w.heap.size) wr ((wr.setCell ⟨w.heap.size, 0, none⟩ (.slice Ac (tds t).calls.length cc)).setCell ⟨w.heap.size, 1, none⟩ (.slice Ao (tds t).owners.length co)) := ((Chg.refl (fun x => x = w.heap.size) wr).put _ _ (.inr rfl)).put _ _ (.inr rfl)
   refine bodyPost_ret (v := .agg #[.slice Ac (tds t).calls.length cc, .slice Ao (tds t).owners.length co]) (by simp [results, Try.results78, go_sem, hc]) rfl ⟨Ac, cc, Ao, co, rfl, own_chg H.out.calls hch (fun x hx e => H.out.nc0 (e ▸ hx)), own_chg H.out.owners hch (fun x hx e => H.out.no0 (e ▸ hx)), H.out.chgb hch (fun x e => by omega)⟩
end Go.Proofs.Ytikdcnlbjpabjab.Read3
