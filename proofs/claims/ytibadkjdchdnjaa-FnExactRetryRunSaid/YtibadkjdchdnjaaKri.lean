import Derived.Test.YtibadkjdchdnjaaKrt
import Derived.Test.YtibadkjdchdnjaaKfg
import Derived.Test.YtibadkjdchdnjaaIstep1
import Derived.BigRegion
import Derived.WalkMore
set_option linter.all false
namespace Go.Proofs.Ytibadkjdchdnjaa.Kri
open Lib (hid)
open Go.ChangeShapes Go.WideShapes Go.ChangeAt Go.RowKit
open PL Mem Srun Sst To OwnS AskP StpS Res Swhole Sout IntsP LawI LawN PArgP Kpp Kpw Krt Kfg Istep1
def rc (g : Nat) (wv : Value) (o : Out) (tv : Value) (m s : Int) : Array Value := #[runV g, wv, .int .i64 o.kind, .int .i64 o.value, tv, .int .i64 o.spent, .int .i64 m, .int .i64 s]
structure Rt (w : World) (rb g : Nat) (wv : Value) (o : Out) (tv : Value) (m s : Int) (W : World) : Prop where
 blk : Blk W rb 91 (rc g wv o tv m s)
 tre : Tre W w.heap.size tv o.trace
 chg : Chg (fun k => k = rb) w W
section
variable {w W W' : World} {rb g : Nat} {wv tv : Value} {o : Out} {m s : Int}
theorem Rt.drew (h : Rt w rb g wv o tv m s W) : Rt w rb g wv o tv m s W.drew := ⟨h.blk, World.ownsRow.drew h.tre, h.chg.trans (Chg.drew (fun _ => False) W) (fun _ _ hx => hx.elim)⟩
theorem Rt.below (h : Rt w rb g wv o tv m s W) (b : Below W.heap.size W W') : Rt w rb g wv o tv m s W' := ⟨h.blk.below b h.blk.lt, own_below h.tre b (Nat.le_refl _), h.chg.trans (Chg.of_below (C := fun _ => False) b) (fun _ _ hx => hx.elim)⟩
theorem Rt.apart (h : Rt w rb g wv o tv m s W) : tv.ownBlock ≠ some rb := blk_apart h.tre h.blk (by decide)
theorem Rt.sum (h : Rt w rb g wv o tv m s W) (s' : Int) : Rt w rb g wv o tv m s' (W.setCell ⟨rb, 7, none⟩ (.int .i64 s')) := by
 refine ⟨?_, own_far h.tre _ _ h.apart, h.chg.put _ _ (.inr rfl)⟩
 have := h.blk.put 7 (.int .i64 s')
 simpa only [rc, List.setIfInBounds_toArray, List.set_cons_zero, List.set_cons_succ] using this
theorem Rt.count (h : Rt w rb g wv o tv m s W) (m' : Int) : Rt w rb g wv o tv m' s (W.setCell ⟨rb, 6, none⟩ (.int .i64 m')) := by
 refine ⟨?_, own_far h.tre _ _ h.apart, h.chg.put _ _ (.inr rfl)⟩
 have := h.blk.put 6 (.int .i64 m')
 simpa only [rc, List.setIfInBounds_toArray, List.set_cons_zero, List.set_cons_succ] using this
theorem Rt.last (h : Rt w rb g wv o tv m s W) (o' : Out) (tv' : Value) (ht : Tre W w.heap.size tv' o'.trace) :
  Rt w rb g wv o' tv' m s ((((W.setCell ⟨rb, 2, none⟩ (.int .i64 o'.kind)).setCell ⟨rb, 3, none⟩ (.int .i64 o'.value)).setCell ⟨rb, 4, none⟩ tv').setCell ⟨rb, 5, none⟩ (.int .i64 o'.spent)) := by
 have n2 := blk_apart ht h.blk (by decide)
 refine ⟨?_, own_far (own_far (own_far (own_far ht _ _ n2) _ _ n2) _ _ n2) _ _ n2, (((h.chg.put _ _ (.inr rfl)).put _ _ (.inr rfl)).put _ _ (.inr rfl)).put _ _ (.inr rfl)⟩
 have := (((h.blk.put 2 (.int .i64 o'.kind)).put 3 (.int .i64 o'.value)).put 4 tv').put 5 (.int .i64 o'.spent)
 simpa only [rc, List.setIfInBounds_toArray, List.set_cons_zero, List.set_cons_succ] using this
end
set_option maxRecDepth 100000 in
set_option maxHeartbeats 8000000 in
theorem retry_any (B rb g nw cw : Nat) (Aw : Option Addr) (arg wa fa mo : Int) (T : Nat → Out) (harg : -32768 ≤ arg ∧ arg ≤ 32767) (hnw : nw ≤ 19) (hwa : 0 ≤ wa) (hmo : 0 ≤ mo) (hmo2 : mo ≤ 10000) (hfa : 1 ≤ fa) (w : World) (hB : B ≤ w.heap.size) (hBr : B ≤ rb)
  (hrun : ∀ (i : Nat) (W : World), Below B w W → Calls Try.prog 97 #[.int .i64 (wrap16 (arg + i)), .pointer (some ⟨g, 0, none⟩), .pointer (some ⟨g + 1, 0, none⟩), .pointer (some ⟨g + 2, 0, none⟩)] W (RunR (T i) W))
  (hbk : Blk w rb 91 (rc g (.slice Aw nw cw) noOut (.slice none 0 0) 0 0)) (hwt : RdI w B Aw (waitL wa fa mo nw)) :
  Calls Try.prog 65 #[.pointer (some ⟨rb, 0, none⟩), .int .i64 arg] w fun e w' => e = .returned (.tuple #[]) ∧ ∃ A c, Rt w rb g (.slice Aw nw cw) (T (rtGo T nw 1 - 1)) (.slice A (T (rtGo T nw 1 - 1)).trace.length c) (rtGo T nw 1) (wsum wa fa mo (rtGo T nw 1 - 1)) w' := by
 have HWA := hid (fun (i : Nat) (hi : i ≤ 100) W => (show Calls Try.prog 98 #[.int .i64 (IntKind.i64.wrap (arg + i))] W (fun e w' => e = .returned (.int .i64 (wrap16 (arg + i))) ∧ W = w') by rw [IntWalk.i64_in _ (by omega)]; exact wrapI_any (arg + i) W))
 have HR := hid hrun
 have HWT := hid hwt
 have H0 := hid (show Rt w rb g (.slice Aw nw cw) noOut (.slice none 0 0) 0 (wsum wa fa mo (0 - 1)) w from ⟨hbk, World.ownsRow_nil _ _ _ _, Chg.refl _ _⟩)
 have HSI := hid (fun k => wsum_in hwa hmo hmo2 hfa k)
 have HSS := hid (fun k => (show wsum wa fa mo (k + 1) = wsum wa fa mo k + wt wa fa mo k from rfl))
 have HWI := hid (fun k => wt_in hwa hmo hfa k)
 have HWG := hid (fun k (h : k < nw) => waitL_get wa fa mo nw k h)
 have HM0 := hid (rfl : rtGo T nw 1 = rtGo T nw 1)
 obtain ⟨M, hM⟩ : ∃ M, rtGo T nw 1 = M := ⟨_, rfl⟩
 have HM := hid hM
 rw [hM]
 have hlt0 := hbk.lt
 clear hrun hbk hwt hM HM0
 go_enter Try.func65, Try.ntmps65
 go_step3
 go_wp2_with fail
 go_step3
 go_wp2_with fail
 go_loopg [] (nw + 2) (fun k wr => ∃ (m : Nat) (o : Out) (A' : Option Addr) (c' : Nat), nw + 1 - m < k ∧ ((m < nw + 1 ∧ rtGo T (nw - m) (m + 1) = M) ∨ (m = nw + 1 ∧ M = nw + 1)) ∧ (0 < m → T (m - 1) = o) ∧ Rt w rb g (.slice Aw nw cw) o (.slice A' o.trace.length c') m (wsum wa fa mo (m - 1)) wr)
 case atStart => exact ⟨0, noOut, none, 0, by omega, .inl ⟨by omega, HM.out⟩, fun h => absurd h (by omega), H0.out⟩
 case round =>
  obtain ⟨m, o, A', c', hk, hgo, hTo, hrt⟩ := hrel
  have R := hid hrt
  have HTO := hid hTo
  have zs := hrt.blk.cells
  unfold rc runV at zs
  clear hrt hTo H0
  rcases hgo with ⟨hmn, hgo⟩ | ⟨hmn, hMn⟩
  ·have hc0 : decide ((m : Int) ≤ (nw : Int)) = true := by simp; omega
   have HG := hid hgo
   obtain ⟨k, rfl⟩ : ∃ k, gk = k + 1 := ⟨gk - 1, by omega⟩
   clear hgo
   go_wp2_with fail
   go_region
   first | change (fun V => Exit.then _ _ _ _ V) _ | change (fun V => Code.wp _ _ _ _ V) _
   refine gen_world (X := fun V => Rt w rb g (.slice Aw nw cw) o (.slice A' o.trace.length c') m (wsum wa fa mo (m - 1)) V) R.out.drew ?_
   clear zs R
   intro W1 hR1
   have zs := hR1.blk.cells
   unfold rc runV at zs
   have R1 := hid hR1
   clear hR1
   go_upto_if 18 with fail
   go_cut [] from 4 to 66 (fun wx => Rt w rb g (.slice Aw nw cw) o (.slice A' o.trace.length c') m (wsum wa fa mo m) wx)
   case first =>
    have fz := R1.out.blk.frozen
    cases m with
    | zero =>
     go_wp2_with fail
     go_meet
     exact R1.out
    | succ j =>
     have hjw : j < nw := by omega
     obtain ⟨hs1, hs2⟩ := HSI.out j
     obtain ⟨hu1, hu2⟩ := HWI.out j
     have hb := R1.out.chg.below hB (fun x hx e => by omega)
     obtain ⟨ad, rfl, hab, d0⟩ := (HWT.out.below hb) j _ (HWG.out j hjw)
     have HS := hid (HSS.out j)
     clear hb
     simp only [Nat.add_sub_cancel] at zs R1 ⊢
     generalize wsum wa fa mo j = sj at *
     generalize wt wa fa mo j = uj at *
     go_wp2_with fail
     go_region
     go_wp2_with fail
     go_meet
     rw [HS.out]
     exact R1.out.drew.sum _
   case rest =>
    have RC := hid hcut
    have zs := hcut.blk.cells
    unfold rc runV at zs
    have hw := hid (HWA.out m (by omega))
    have hR := hid (fun (V : World) (b : Below wc.heap.size wc V) =>
     have hc := (RC.out.below b)
     (HR.out m V (hc.chg.below hB (fun x hx e => by omega))).mono (fun e w' (h : RunR (T m) V e w') =>
      show ∃ (A6 : Option Addr) (c6 : Nat), e = .returned (.agg #[.int .i64 (T m).kind, .int .i64 (T m).value, .slice A6 (T m).trace.length c6, .int .i64 (T m).spent]) ∧ Tre w' w.heap.size (.slice A6 (T m).trace.length c6) (T m).trace ∧ Rt w rb g (.slice Aw nw cw) o (.slice A' o.trace.length c') m (wsum wa fa mo m) w' from
      let ⟨A6, c6, h1, h2, h3⟩ := h
      ⟨A6, c6, h1, own_mono h2 hc.chg.size, hc.below h3⟩))
    clear hcut R1
    go_wp2_with fail
    go_region_with (first | (go_at_call 98; refine (hw.out _).mono ?_; rintro e w5 ⟨rfl, rfl⟩) | (go_at_call 97; refine (hR.out _ ?_).mono ?_; (first | exact (Below.refl _ _).drew | exact Below.refl _ _); rintro e w6 ⟨A6, c6, rfl, t6, r6⟩; have f6 := r6.blk.frozen; have z6 := r6.blk.cells; unfold rc runV at z6))
    all_goals (
     first | change (fun V => Exit.then _ _ _ _ V) _ | change (fun V => Code.wp _ _ _ _ V) _
     refine gen_world (X := fun V => Rt w rb g (.slice Aw nw cw) (T m) (.slice A6 (T m).trace.length c6) m (wsum wa fa mo m) V) (r6.last (T m) (.slice A6 (T m).trace.length c6) t6) ?_
     clear t6 r6 f6 z6
     intro W2 hR2
     have zs := hR2.blk.cells
     have fz := hR2.blk.frozen
     unfold rc runV at zs
     have R2 := hid hR2
     clear hR2
     by_cases he : ends (T m) = true
     ·have hM := hid (show M = m + 1 by rw [← HG.out]; exact rtGo_yes he)
      have hfin := hid (show ∃ A c, Rt w rb g (.slice Aw nw cw) (T (M - 1)) (.slice A (T (M - 1)).trace.length c) M (wsum wa fa mo (M - 1)) (W2.setCell ⟨rb, 6, none⟩ (.int .i64 ((m : Int) + 1))) from ⟨A6, c6, by
       rw [hM.out, Nat.add_sub_cancel, show (((m + 1 : Nat)) : Int) = (m : Int) + 1 by omega]
       exact R2.out.count ((m : Int) + 1)⟩)
      clear hM R2 HG
      unfold ends at he
      generalize T m = r at *
      obtain ⟨k1, v1, t1, s1⟩ := r
      dsimp only at he zs
      by_cases h1 : k1 = 1
      ·subst h1
       go_wp2_with fail
       first | go_end0 | (rw [Exit.noGoto_normal]; go_end0)
       exact ⟨rfl, hfin.out⟩
      ·have h3 : k1 = 3 := by
        have : (k1 == 1) = false := by simpa using h1
        rw [this] at he
        simpa using he
       subst h3
       clear he
       go_wp2_with fail
       first | go_end0 | (rw [Exit.noGoto_normal]; go_end0)
       exact ⟨rfl, hfin.out⟩
     ·have he' : ends (T m) = false := by simpa using he
      have hN := hid (show (m + 1 < nw + 1 ∧ rtGo T (nw - (m + 1)) (m + 1 + 1) = M) ∨ (m + 1 = nw + 1 ∧ M = nw + 1) by
       by_cases hmm : m + 1 < nw + 1
       ·refine .inl ⟨hmm, ?_⟩
        rw [← HG.out, show nw - m = nw - (m + 1) + 1 by omega]
        exact (rtGo_no he').symm
       ·refine .inr ⟨by omega, ?_⟩
        rw [← HG.out, show nw - m = 0 by omega]
        show m + 1 = nw + 1
        omega)
      have hR3 := hid (show Rt w rb g (.slice Aw nw cw) (T m) (.slice A6 (T m).trace.length c6) ((m + 1 : Nat) : Int) (wsum wa fa mo (m + 1 - 1)) (W2.setCell ⟨rb, 6, none⟩ (.int .i64 ((m : Int) + 1))) from by
       rw [Nat.add_sub_cancel, show (((m + 1 : Nat)) : Int) = (m : Int) + 1 by omega]
       exact R2.out.count ((m : Int) + 1))
      have hTm := hid (rfl : T m = T m)
      unfold ends at he'
      have hb1 : ((T m).kind == 1) = false := by revert he'; cases ((T m).kind == 1) <;> simp
      have hb3 : ((T m).kind == 3) = false := by revert he'; rw [hb1]; simp
      clear HG R2 he he'
      go_wp2_with fail
      go_roundg k
      case rel => exact ⟨m + 1, T m, A6, c6, by omega, hN.out, fun _ => by rw [Nat.add_sub_cancel], hR3.out⟩
      case measure => omega)
  ·have hc0 : decide ((m : Int) ≤ (nw : Int)) = false := by simp; omega
   have hc1 : decide (m ≤ nw) = false := by simp; omega
   have hfin := hid (fun W1 (h : Rt w rb g (.slice Aw nw cw) o (.slice A' o.trace.length c') m (wsum wa fa mo (m - 1)) W1) => (show ∃ A c, Rt w rb g (.slice Aw nw cw) (T (M - 1)) (.slice A (T (M - 1)).trace.length c) M (wsum wa fa mo (M - 1)) W1 from by
    have hmM : M = m := by omega
    rw [hmM, HTO.out (by omega)]
    exact ⟨A', c', h⟩))
   clear hmn hMn
   go_wp2_with fail
   go_region
   first | change (fun V => Exit.then _ _ _ _ V) _ | change (fun V => Code.wp _ _ _ _ V) _
   refine gen_world (X := fun V => Rt w rb g (.slice Aw nw cw) o (.slice A' o.trace.length c') m (wsum wa fa mo (m - 1)) V) R.out.drew ?_
   intro W1 hR1
   have R1 := hid hR1
   clear hR1 zs R
   go_wp2_with fail
   first | go_end0 | (rw [Exit.noGoto_normal]; go_end0)
   exact ⟨rfl, hfin.out _ R1.out⟩
end Go.Proofs.Ytibadkjdchdnjaa.Kri
-- squeezed
