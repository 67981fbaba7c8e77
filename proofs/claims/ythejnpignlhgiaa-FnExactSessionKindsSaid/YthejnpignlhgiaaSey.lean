import Derived.Test.YthejnpignlhgiaaSez
import Derived.Test.YthejnpignlhgiaaSem
import Derived.Test.YthejnpignlhgiaaCdo
import Derived.Test.YthejnpignlhgiaaL3
import Derived.Deep.LoopGhost
set_option linter.all false
namespace Go.Proofs.Ythejnpignlhgiaa.Sey
open Last2 (tk)
open Lib (hid)
open Go.ChangeShapes Go.WideShapes Go.ChangeAt Go.RowKit
open PL Mem To Srun Sst IntsP RowA OwnS AskP Res Swhole Sout StS Frp Frs Sep SaysP Sez SemP Cdo
theorem mx_max (a b : Int) : mx a b = max a b := by unfold mx; split <;> omega
theorem far4 {W : World} {b g t : Nat} {cs : Array Value} (h : Blk W b t cs) (hne : b ≠ g) (u0 u1 u2 u3 : Value) : Blk ((((W.setCell ⟨g, 0, none⟩ u0).setCell ⟨g, 1, none⟩ u1).setCell ⟨g, 2, none⟩ u2).setCell ⟨g, 3, none⟩ u3) b t cs := by
 iterate 4 refine Blk.far ?_ _ _ hne
 exact h
theorem own4 {W : World} {lo e sz m g : Nat} {v : Value} {l : List Value} (h : W.ownsRow lo e sz v m l) (hne : v.ownBlock ≠ some g) (u0 u1 u2 u3 : Value) : ((((W.setCell ⟨g, 0, none⟩ u0).setCell ⟨g, 1, none⟩ u1).setCell ⟨g, 2, none⟩ u2).setCell ⟨g, 3, none⟩ u3).ownsRow lo e sz v m l := by
 iterate 4 refine own_far ?_ _ _ hne
 exact h
theorem bel4 {w W : World} {B g : Nat} (h : Below B w W) (hg : B ≤ g) (u0 u1 u2 u3 : Value) : Below B w ((((W.setCell ⟨g, 0, none⟩ u0).setCell ⟨g, 1, none⟩ u1).setCell ⟨g, 2, none⟩ u2).setCell ⟨g, 3, none⟩ u3) := by
 iterate 4 refine Below.setCell ?_ hg _
 exact h
theorem own5 {W : World} {lo e sz m g : Nat} {v : Value} {l : List Value} (h : W.ownsRow lo e sz v m l) (hne : v.ownBlock ≠ some g) (u0 u1 u2 u3 u4 : Value) : (((((W.setCell ⟨g, 0, none⟩ u0).setCell ⟨g, 1, none⟩ u1).setCell ⟨g, 2, none⟩ u2).setCell ⟨g, 3, none⟩ u3).setCell ⟨g, 4, none⟩ u4).ownsRow lo e sz v m l := by
 iterate 5 refine own_far ?_ _ _ hne
 exact h
theorem bel5 {w W : World} {B g : Nat} (h : Below B w W) (hg : B ≤ g) (u0 u1 u2 u3 u4 : Value) : Below B w (((((W.setCell ⟨g, 0, none⟩ u0).setCell ⟨g, 1, none⟩ u1).setCell ⟨g, 2, none⟩ u2).setCell ⟨g, 3, none⟩ u3).setCell ⟨g, 4, none⟩ u4) := by
 iterate 5 refine Below.setCell ?_ hg _
 exact h
structure Sn (w1 : World) (b lo : Nat) (s : Sen) (v1 v2 v3 : Value) (W : World) : Prop where
 blk : Blk W b 110 #[v1, v2, v3, .int .i64 s.code, .int .i64 s.shared]
 j : OwnI W lo v1 s.jobs
 h : OwnI W lo v2 s.hooks
 y : OwnI W lo v3 s.says
 chg : Chg (fun x => x = b) w1 W
section
variable {w1 W W' : World} {b lo : Nat} {s s' : Sen} {v1 v2 v3 v1' v2' v3' : Value}
theorem Sn.below (h : Sn w1 b lo s v1 v2 v3 W) (bb : Below W.heap.size W W') : Sn w1 b lo s v1 v2 v3 W' :=
 ⟨h.blk.below bb h.blk.lt, own_below h.j bb (Nat.le_refl _), own_below h.h bb (Nat.le_refl _), own_below h.y bb (Nat.le_refl _), h.chg.trans (Chg.of_below (C := fun _ => False) bb) (fun _ _ h => h.elim)⟩
theorem Sn.put5 (h : Sn w1 b lo s v1 v2 v3 W) (hj : OwnI W lo v1' s'.jobs) (hh : OwnI W lo v2' s'.hooks) (hy : OwnI W lo v3' s'.says) : Sn w1 b lo s' v1' v2' v3' (((((W.setCell ⟨b, 0, none⟩ v1').setCell ⟨b, 1, none⟩ v2').setCell ⟨b, 2, none⟩ v3').setCell ⟨b, 3, none⟩ (.int .i64 s'.code)).setCell ⟨b, 4, none⟩ (.int .i64 s'.shared)) :=
 ⟨set5 h.blk _ _ _ _ _, own5 hj (blk_apart hj h.blk (by decide)) _ _ _ _ _, own5 hh (blk_apart hh h.blk (by decide)) _ _ _ _ _, own5 hy (blk_apart hy h.blk (by decide)) _ _ _ _ _, ((((h.chg.put ⟨b, 0, none⟩ _ (.inr rfl)).put ⟨b, 1, none⟩ _ (.inr rfl)).put ⟨b, 2, none⟩ _ (.inr rfl)).put ⟨b, 3, none⟩ _ (.inr rfl)).put ⟨b, 4, none⟩ _ (.inr rfl)⟩
theorem Sn.job {z : Int} {v' : Value} (h : Sn w1 b lo s v1 v2 v3 W) (ho : OwnI W lo v' (s.jobs ++ [z])) : Sn w1 b lo { s with jobs := s.jobs ++ [z] } v' v2 v3 (W.setCell ⟨b, 0, none⟩ v') :=
 ⟨by have := h.blk.put 0 v'; simpa only [Last2.s] using this, own_far ho _ _ (blk_apart ho h.blk (by decide)), own_far h.h _ _ (blk_apart h.h h.blk (by decide)), own_far h.y _ _ (blk_apart h.y h.blk (by decide)), h.chg.put ⟨b, 0, none⟩ _ (.inr rfl)⟩
theorem Sn.hook {z : Int} {v' : Value} (h : Sn w1 b lo s v1 v2 v3 W) (ho : OwnI W lo v' (s.hooks ++ [z])) : Sn w1 b lo { s with hooks := s.hooks ++ [z] } v1 v' v3 (W.setCell ⟨b, 1, none⟩ v') :=
 ⟨by have := h.blk.put 1 v'; simpa only [Last2.s] using this, own_far h.j _ _ (blk_apart h.j h.blk (by decide)), own_far ho _ _ (blk_apart ho h.blk (by decide)), own_far h.y _ _ (blk_apart h.y h.blk (by decide)), h.chg.put ⟨b, 1, none⟩ _ (.inr rfl)⟩
theorem Sn.coded (h : Sn w1 b lo s v1 v2 v3 W) (z : Int) : Sn w1 b lo { s with code := z } v1 v2 v3 (W.setCell ⟨b, 3, none⟩ (.int .i64 z)) :=
 ⟨by have := h.blk.put 3 (.int .i64 z); simpa only [Last2.s] using this, own_far h.j _ _ (blk_apart h.j h.blk (by decide)), own_far h.h _ _ (blk_apart h.h h.blk (by decide)), own_far h.y _ _ (blk_apart h.y h.blk (by decide)), h.chg.put ⟨b, 3, none⟩ _ (.inr rfl)⟩
end
def RunR (s : Sen) (w : World) (e : Ending) (w' : World) : Prop :=
 ∃ v1 v2 v3, e = .returned (.agg #[v1, v2, v3, .int .i64 s.code, .int .i64 s.shared]) ∧ OwnI w' w.heap.size v1 s.jobs ∧ OwnI w' w.heap.size v2 s.hooks ∧ OwnI w' w.heap.size v3 s.says ∧ Below w.heap.size w w'
set_option maxRecDepth 100000 in
set_option maxHeartbeats 16000000 in
theorem l10Run_any (lo n c nj nh cj ch : Nat) (A Aj Ah : Option Addr) (p : Pg) (js : List Pr) (hs : List Int) (mode fuel : Int) (hl : p.length = n) (hsm : Small p 100) (hn : n ≤ 100) (lj : js.length = nj) (lh : hs.length = nh) (hask : askSes p js hs mode fuel = true) (w : World) (ho : OwnP w lo (.slice A n c) p) (hrs : RdSe w w.heap.size Aj Ah js hs) :
  Calls Try.prog 87 #[.agg #[.slice A n c], .agg #[.slice Aj nj cj, .slice Ah nh ch, .int .i64 mode], .int .i64 fuel] w (RunR (sesS p fuel mode js hs) w) := by
 obtain ⟨i0, hi, hz0, hz1, hz2⟩ := info_parts info4
 obtain ⟨h1, h2, h3, h4, h5, h6, h7, h8, h9⟩ := ses_parts hask
 rw [lj] at h2
 rw [lh] at h3
 have LJ := hid lj
 have LH := hid lh
 have HRD := hid (fun (W : World) (b : Below w.heap.size w W) => hrs.below b)
 have HJA := hid h8
 have HHA := hid h9
 have HF := hid (show sesS p fuel mode js hs = hooksS p fuel mode hs nh (jobsS p fuel mode js sen0) by unfold sesS; rw [lh])
 have hjw := jobs_wf (p := p) (fuel := fuel) (mode := mode) js 0 sen0 wf0 h8
 rw [lj] at hjw
 have HJW := hid (hjw.mono (show 0 + nj ≤ 12 by omega) (Nat.le_refl 0))
 clear lj lh hrs h8 h9 hask h1 hjw
 go_enter Try.func87, Try.ntmps87
 go_upto_region 1 with fail
 change (fun V => Code.wp _ _ _ _ V) _
 refine gen_world (X := fun V => Blk V w.heap.size 35 #[.slice A n c] ∧ Blk V (w.heap.size + 1) 39 #[.slice Aj nj cj, .slice Ah nh ch, .int .i64 mode] ∧ Blk V (w.heap.size + 1 + 1) 110 #[.slice none 0 0, .slice none 0 0, .slice none 0 0, .int .i64 0, .int .i64 0] ∧ Below w.heap.size w V) ⟨((new_at rfl).alloc _).alloc _, (new_at (by simp)).alloc _, new_at (by simp), (((Below.refl _ _).alloc (Nat.le_refl _) _).alloc (by simp) _).alloc (by simp <;> omega) _⟩ ?_
 rintro V0 ⟨q0, q1, q2, qb⟩
 have P0 := hid q0
 have P1 := hid q1
 have P2 := hid q2
 have PB := hid qb
 clear q0 q1 q2 qb
 go_upto_block 0 with fail
 change (fun V => Code.wp _ _ _ _ V) _
 refine gen_world (X := fun V => Blk V w.heap.size 35 #[.slice A n c] ∧ Blk V (w.heap.size + 1) 39 #[.slice Aj nj cj, .slice Ah nh ch, .int .i64 mode] ∧ Blk V (w.heap.size + 1 + 1) 110 #[.slice none 0 0, .slice none 0 0, .slice none 0 0, .int .i64 0, .int .i64 0] ∧ Below w.heap.size w V ∧ V0.heap.size + 1 + 1 + 1 < V.heap.size ∧ Sn V (V0.heap.size + 1 + 1 + 1) w.heap.size sen0 (.slice (some ⟨V0.heap.size, 0, none⟩) 0 0) (.slice (some ⟨V0.heap.size + 1, 0, none⟩) 0 0) (.slice (some ⟨V0.heap.size + 1 + 1, 0, none⟩) 0 0) V) ?_ ?_
 ·have l0 := PB.out.size
  have bb := ((((PB.out.alloc l0 (.cells #[] 3)).alloc (by simp <;> omega) (.cells #[] 3)).alloc (by simp <;> omega) (.cells #[] 3)).alloc (by simp <;> omega) (.cells #[.slice (some ⟨V0.heap.size, 0, none⟩) 0 0, .slice (some ⟨V0.heap.size + 1, 0, none⟩) 0 0, .slice (some ⟨V0.heap.size + 1 + 1, 0, none⟩) 0 0, .int .i64 0, .int .i64 0] 110))
  refine ⟨(((P0.out.alloc _).alloc _).alloc _).alloc _, (((P1.out.alloc _).alloc _).alloc _).alloc _, (((P2.out.alloc _).alloc _).alloc _).alloc _, bb, by simp, ⟨new_at (by simp), ?_, ?_, ?_, Chg.refl _ _⟩⟩
  ·exact App.empty_own ((((new_at rfl).alloc _).alloc _).alloc _) l0
  ·exact App.empty_own (((new_at (by simp)).alloc _).alloc _) (by omega)
  ·exact App.empty_own ((new_at (by simp)).alloc _) (by omega)
 have hlp := P2.out.lt
 clear P0 P1 P2 PB
 rintro w1 ⟨q0, q1, q2, qb, hlb, hsn⟩
 obtain ⟨v01, hv01⟩ : ∃ v : Value, (.slice (some ⟨V0.heap.size, 0, none⟩) 0 0) = v := ⟨_, rfl⟩
 obtain ⟨v02, hv02⟩ : ∃ v : Value, (.slice (some ⟨V0.heap.size + 1, 0, none⟩) 0 0) = v := ⟨_, rfl⟩
 obtain ⟨v03, hv03⟩ : ∃ v : Value, (.slice (some ⟨V0.heap.size + 1 + 1, 0, none⟩) 0 0) = v := ⟨_, rfl⟩
 rw [hv01, hv02, hv03] at hsn
 clear hv01 hv02 hv03
 generalize hb7 : V0.heap.size + 1 + 1 + 1 = b7 at *
 have hb0 : w.heap.size ≠ b7 := by omega
 have hb1 : w.heap.size + 1 ≠ b7 := by omega
 have hb2 : w.heap.size + 1 + 1 ≠ b7 := by omega
 have hwb : w.heap.size ≤ b7 := by omega
 clear hb7 hlp
 have Q0 := hid q0
 have Q1 := hid q1
 have Q2 := hid q2
 have HBWF := hid (fun (V : World) (h : Chg (fun x => x = b7) w1 V) => (show Below w.heap.size w V from qb.trans (h.below qb.size (fun x hx e => by omega))))
 have hw1 : w.heap.size ≤ w1.heap.size := qb.size
 have SNI := hid hsn
 clear q0 q1 q2 qb hsn
 obtain ⟨JF, hjf⟩ : ∃ J, jobsS p fuel mode js sen0 = J := ⟨_, rfl⟩
 rw [hjf] at HJW HF
 have HJF := hid hjf
 clear hjf
 go_cut [] from 8 to 67 (fun wx => ∃ v1 v2 v3, Sn w1 b7 w.heap.size JF v1 v2 v3 wx)
 case first =>
  go_wp2_with fail
  go_loopw [8] (fun i wr => ∃ (k0 : Nat) (s : Sen) (v1 v2 v3 : Value), k0 ≤ nj ∧ i = .int .i64 k0 ∧ Sn w1 b7 w.heap.size s v1 v2 v3 wr ∧ WfS k0 0 s ∧ Hid (jobsS p fuel mode (js.drop k0) s = JF)) (fun i _ => nj - (intOf i).toNat)
  case atStart => exact ⟨0, sen0, _, _, _, Nat.zero_le _, rfl, SNI.out, wf0, HJF⟩
  case round =>
   obtain ⟨k0, s, v1, v2, v3, hk, rfl, hS, hW, HG⟩ := hrel
   obtain ⟨A1, c1, rfl⟩ := own_slice hS.j
   obtain ⟨A2, c2, rfl⟩ := own_slice hS.h
   obtain ⟨A3, c3, rfl⟩ := own_slice hS.y
   have SR := hid hS
   have WS := hid hW
   have HBW := hid (HBWF.out wr hS.chg)
   clear hS hW SNI
   by_cases hlt : k0 < nj
   ·obtain ⟨⟨jf, ja⟩, hjk⟩ : ∃ s, js[k0]? = some s := ⟨_, List.getElem?_eq_getElem (by rw [LJ.out]; exact hlt)⟩
    have HJK := hid hjk
    obtain ⟨ad, had, -⟩ := (HRD.out wr HBW.out).jobs k0 _ hjk
    subst had
    have hJ := hid (fun (V : World) (b : Below wr.heap.size wr V) => (show V.cell? (ad.add (k0 * 2)) = some (.int .i64 jf) ∧ V.cell? ⟨(ad.add (k0 * 2)).block, (ad.add (k0 * 2)).off + 1, none⟩ = some (.int .i64 ja) from by
     obtain ⟨ad', e, -, h0, h1⟩ := (HRD.out V (HBW.out.trans (b.mono HBW.out.size))).jobs k0 _ HJK.out
     cases e
     exact ⟨h0, h1⟩))
    have hdrop : js.drop k0 = (jf, ja) :: js.drop (k0 + 1) := List.drop_eq_getElem_cons (by rw [LJ.out]; exact hlt) |>.trans (by rw [show js[k0]'(by rw [LJ.out]; exact hlt) = (jf, ja) from by rw [List.getElem?_eq_getElem (by rw [LJ.out]; exact hlt)] at hjk; simpa using hjk])
    have hgo := HG.out
    rw [hdrop, jobsS] at hgo
    have ha := HJA.out _ (List.mem_of_getElem? hjk)
    dsimp only at ha
    have hkd : 1 ≤ (oneR p fuel mode s jf ja).kind ∧ (oneR p fuel mode s jf ja).kind ≤ 4 := frm_kind ha
    have hvl : N16 (oneR p fuel mode s jf ja).value := by have hf := frm_wf ha (sharedAt_n (mode := mode) WS.out.shared); exact told_value hf.1 hf.2
    have hC0 := fun W (b : Below wr.heap.size wr W) => l10One_any lo n c nj nh cj ch s.jobs.length s.hooks.length s.says.length c1 c2 c3 w.heap.size A (some ad) Ah A1 A2 A3 p fuel mode jf ja s hl hsm hn ha (WS.out.mono (by omega) (by omega)) rfl W (ho.below (HBW.out.trans (b.mono HBW.out.size))) (own_below SR.out.y b (Nat.le_refl _))
    have hjl : (oneS p fuel mode s jf ja).jobs.length ≤ 12 := Nat.le_trans WS.out.jobs (by omega)
    have hhl : (oneS p fuel mode s jf ja).hooks.length ≤ 12 := Nat.le_trans WS.out.hooks (by omega)
    have e1 : (oneS p fuel mode s jf ja).jobs = s.jobs := rfl
    have e2 : (oneS p fuel mode s jf ja).hooks = s.hooks := rfl
    have e3 : (oneS p fuel mode s jf ja).code = s.code := rfl
    have HJ : jobS p fuel mode s (jf, ja) = { oneS p fuel mode s jf ja with jobs := (oneS p fuel mode s jf ja).jobs ++ [(oneR p fuel mode s jf ja).kind], code := max (oneS p fuel mode s jf ja).code (codeO (oneR p fuel mode s jf ja)) } := rfl
    have HW2 := hid (job_wf (mode := mode) WS.out (j := (jf, ja)) ha)
    have hgo2 : (if (!(mode == 2 && !((oneR p fuel mode s jf ja).kind == 1))) = true then jobsS p fuel mode (js.drop (k0 + 1)) (jobS p fuel mode s (jf, ja)) else jobS p fuel mode s (jf, ja)) = JF := hgo
    clear hgo hdrop hjk
    generalize oneS p fuel mode s jf ja = s1 at *
    generalize oneR p fuel mode s jf ja = oc at *
    obtain ⟨k, v, t, sp⟩ := oc
    dsimp only at hkd hvl HJ hgo2
    obtain ⟨N, hN⟩ : ∃ N, t.length = N := ⟨_, rfl⟩
    obtain ⟨q, hq⟩ : ∃ q, codeO { kind := k, value := v, trace := t, spent := sp } = q := ⟨_, rfl⟩
    have hco0 := fun A2 c2 W => l10Code_any A2 N c2 t k v sp hkd hvl W
    rw [hq] at hco0 HJ
    have hco := hid hco0
    have hC := hid hC0
    have HN := hid hN
    have hmo0 := fun W => most_any s1.code q W
    rw [mx_max] at hmo0
    generalize hmc : max s1.code q = mc at *
    have hmo := hid hmo0
    have HJS := hid HJ
    have E1 := hid e1
    have E2 := hid e2
    have E3 := hid e3
    clear hC0 hco0 hq hN hmo0 hkd hvl HJ ha hmc e1 e2 e3
    have HO := hid (fun (V : World) (b : Below wr.heap.size wr V) => (show (fun V : World => V.cell? ⟨w.heap.size, 0, none⟩ = some (.slice A n c) ∧ (∀ o, V.cell? ⟨w.heap.size + 1, o, none⟩ = (#[.slice (some ad) nj cj, .slice Ah nh ch, .int .i64 mode] : Array Value)[o]?) ∧ (V.cell? (ad.add (k0 * 2)) = some (.int .i64 jf) ∧ V.cell? ⟨(ad.add (k0 * 2)).block, (ad.add (k0 * 2)).off + 1, none⟩ = some (.int .i64 ja)) ∧ (∀ o, V.cell? ⟨b7, o, none⟩ = (#[.slice A1 s.jobs.length c1, .slice A2 s.hooks.length c2, .slice A3 s.says.length c3, .int .i64 s.code, .int .i64 s.shared] : Array Value)[o]?)) V from ⟨(Q0.out.chg (SR.out.below b).chg hb0).cells 0, (Q1.out.chg (SR.out.below b).chg hb1).cells, hJ.out V b, (SR.out.below b).blk.cells⟩))
    have b0 : Below wr.heap.size wr wr.drew := (Below.refl _ _).drew
    have S0 := HO.out wr.drew b0
    have hlt9 : ∀ x, wr.heap.size ≤ x → x ≠ b7 := fun x hx e => by have := SR.out.blk.lt; omega
    have z0 : wr.cell? ⟨w.heap.size + 1, 0, none⟩ = some (.slice (some ad) nj cj) := (Q1.out.chg SR.out.chg hb1).cells 0
    go_upto_region 5 with fail
    clear z0
    go_cut [9, 10] from 25 to 44 (fun s9 s10 wx => ∃ g9 g10 A7 c7 A4 c4, s9 = .pointer (some ⟨g9, 0, none⟩) ∧ s10 = .pointer (some ⟨g10, 0, none⟩) ∧ Blk wx g9 110 #[.slice A1 s.jobs.length c1, .slice A2 s.hooks.length c2, .slice A7 s1.says.length c7, .int .i64 s1.code, .int .i64 s1.shared] ∧ Blk wx g10 56 #[.int .i64 k, .int .i64 v, .slice A4 N c4, .int .i64 sp] ∧ wx.ownsRow wr.heap.size 3 1 (.slice A7 s1.says.length c7) s1.says.length (cellsI s1.says) ∧ Below wr.heap.size wr wx)
    case first =>
     refine Last2.region_last [23] (fun V : World => V.cell? ⟨w.heap.size, 0, none⟩ = some (.slice A n c) ∧ (∀ o, V.cell? ⟨w.heap.size + 1, o, none⟩ = (#[.slice (some ad) nj cj, .slice Ah nh ch, .int .i64 mode] : Array Value)[o]?) ∧ (V.cell? (ad.add (k0 * 2)) = some (.int .i64 jf) ∧ V.cell? ⟨(ad.add (k0 * 2)).block, (ad.add (k0 * 2)).off + 1, none⟩ = some (.int .i64 ja)) ∧ (∀ o, V.cell? ⟨b7, o, none⟩ = (#[.slice A1 s.jobs.length c1, .slice A2 s.hooks.length c2, .slice A3 s.says.length c3, .int .i64 s.code, .int .i64 s.shared] : Array Value)[o]?)) (by kernel_rfl) ?_
     generalize wr.drew = W0 at *
     refine tk 0 26 (.agg #[.slice A n c]) S0 ?_
     simp only [Act.put, Last2.s]
     refine tk 1 27 (.agg #[.slice (some ad) nj cj, .slice Ah nh ch, .int .i64 mode]) S0 ?_
     simp only [Act.put, Last2.s]
     refine tk 2 28 (.pointer (some ⟨w.heap.size + 1, 0, none⟩)) S0 ?_
     simp only [Act.put, Last2.s]
     refine tk 3 29 (.slice (some ad) nj cj) S0 ?_
     simp only [Act.put, Last2.s]
     refine tk 4 30 (.int .i64 k0) S0 ?_
     simp only [Act.put, Last2.s]
     refine tk 5 31 (.pointer (some (ad.add (k0 * 2)))) S0 ?_
     simp only [Act.put, Last2.s]
     refine tk 6 32 (.pointer (some (ad.add (k0 * 2)))) S0 ?_
     simp only [Act.put, Last2.s]
     refine tk 7 33 (.int .i64 jf) S0 ?_
     simp only [Act.put, Last2.s]
     refine tk 8 34 (.pointer (some ⟨w.heap.size + 1, 0, none⟩)) S0 ?_
     simp only [Act.put, Last2.s]
     refine tk 9 35 (.slice (some ad) nj cj) S0 ?_
     simp only [Act.put, Last2.s]
     refine tk 10 36 (.int .i64 k0) S0 ?_
     simp only [Act.put, Last2.s]
     refine tk 11 37 (.pointer (some (ad.add (k0 * 2)))) S0 ?_
     simp only [Act.put, Last2.s]
     refine tk 12 38 (.pointer (some ⟨(ad.add (k0 * 2)).block, (ad.add (k0 * 2)).off + 1, none⟩)) S0 ?_
     simp only [Act.put, Last2.s]
     refine tk 13 39 (.int .i64 ja) S0 ?_
     simp only [Act.put, Last2.s]
     refine tk 14 40 (.int .i64 fuel) S0 ?_
     simp only [Act.put, Last2.s]
     refine tk 15 41 (.agg #[.slice A1 s.jobs.length c1, .slice A2 s.hooks.length c2, .slice A3 s.says.length c3, .int .i64 s.code, .int .i64 s.shared]) S0 ?_
     simp only [Act.put, Last2.s]
     refine Last2.last_three (i := 16) (j := 20) (k := 21) (oi := { dst := some 42, op := .call { callee := .value (.func 114), args := #[.tmp 26, .tmp 27, .tmp 33, .tmp 39, .tmp 40, .tmp 41], argTypes := #[35, 39, 3, 3, 3, 110] }, type := _, pos := _, after := _, guard := _ }) (oj := { dst := some 9, op := .alloc 110, type := _, pos := _, after := _, guard := none }) (ok := { dst := some 10, op := .alloc 56, type := _, pos := _, after := _, guard := none }) (by kernel_rfl) rfl rfl rfl rfl rfl rfl (fun K hK => ?_) (fun K hK => ?_) (fun K hK => ?_)
     ·go_simp
      refine (hC.out W0 b0).mono ?_
      rintro e W1 ⟨A7, c7, A4, c4, rfl, oy, bq⟩
      unfold outval
      dsimp only
      rw [HN.out]
      have b1 : Below wr.heap.size wr W1 := b0.trans (bq.mono b0.size)
      replace oy : W1.ownsRow wr.heap.size 3 1 (.slice A7 s1.says.length c7) s1.says.length (cellsI s1.says) := own_mono oy b0.size
      have S1 := HO.out W1 b1
      refine hK.out _ _ (fun _ => S1) ?_
      clear hK K
      try simp only [Act.put, Last2.s]
      clear bq b0
      refine Last2.last_take (i := 17) (d := some 25) (v := .tuple #[.agg #[.slice A1 s.jobs.length c1, .slice A2 s.hooks.length c2, .slice A7 s1.says.length c7, .int .i64 s1.code, .int .i64 s1.shared], .agg #[.int .i64 k, .int .i64 v, .slice A4 N c4, .int .i64 sp]]) rfl rfl (by kernel_rfl) (by kernel_rfl) (by kernel_rfl) (fun _ _ _ h => h) rfl (by kernel_rfl) (by kernel_rfl) rfl ?_ S1 ?_
      ·(intro V hV; (try dsimp only at hV); go_simp; try with_reducible rfl)
      simp only [Act.put, Last2.s]
      refine Last2.last_take (i := 18) (d := some 43) (v := .agg #[.slice A1 s.jobs.length c1, .slice A2 s.hooks.length c2, .slice A7 s1.says.length c7, .int .i64 s1.code, .int .i64 s1.shared]) rfl rfl (by kernel_rfl) (by kernel_rfl) (by kernel_rfl) (fun _ _ _ h => h) rfl (by kernel_rfl) (by kernel_rfl) rfl ?_ S1 ?_
      ·(intro V hV; (try dsimp only at hV); go_simp; try with_reducible rfl)
      simp only [Act.put, Last2.s]
      refine Last2.last_take (i := 19) (d := some 44) (v := .agg #[.int .i64 k, .int .i64 v, .slice A4 N c4, .int .i64 sp]) rfl rfl (by kernel_rfl) (by kernel_rfl) (by kernel_rfl) (fun _ _ _ h => h) rfl (by kernel_rfl) (by kernel_rfl) rfl ?_ S1 ?_
      ·(intro V hV; (try dsimp only at hV); go_simp; try with_reducible rfl)
      simp only [Act.put, Last2.s]
      refine Last2.last_two (i := 20) (j := 21) (oi := { dst := some 9, op := .alloc 110, type := _, pos := _, after := _, guard := none }) (oj := { dst := some 10, op := .alloc 56, type := _, pos := _, after := _, guard := none }) (by kernel_rfl) rfl rfl rfl rfl (fun K hK => ?_) (fun K hK => ?_)
      ·go_simp
       have x9 : Blk (W1.alloc (.cells #[.slice none 0 0, .slice none 0 0, .slice none 0 0, .int .i64 0, .int .i64 0] 110)) W1.heap.size 110 #[.slice none 0 0, .slice none 0 0, .slice none 0 0, .int .i64 0, .int .i64 0] := heap1_0 W1 _
       have b2 : Below wr.heap.size wr (W1.alloc (.cells #[.slice none 0 0, .slice none 0 0, .slice none 0 0, .int .i64 0, .int .i64 0] 110)) := b1.alloc b1.size _
       have lg9 : wr.heap.size ≤ W1.heap.size := b1.size
       replace oy := World.ownsRow.alloc oy (.cells #[.slice none 0 0, .slice none 0 0, .slice none 0 0, .int .i64 0, .int .i64 0] 110)
       have S2 := HO.out _ b2
       refine hK.out _ _ (fun _ => S2) ?_
       clear hK K
       try simp only [Act.put, Last2.s]
       clear b1
       generalize W1.alloc (.cells #[.slice none 0 0, .slice none 0 0, .slice none 0 0, .int .i64 0, .int .i64 0] 110) = W2 at *
       generalize W1.heap.size = g9 at *
       refine Last2.last_one (i := 21) (o := { dst := some 10, op := .alloc 56, type := _, pos := _, after := _, guard := none }) (by kernel_rfl) rfl rfl (fun K hK => ?_)
       go_simp
       have x10 : Blk (W2.alloc (.cells #[.int .i64 0, .int .i64 0, .slice none 0 0, .int .i64 0] 56)) W2.heap.size 56 #[.int .i64 0, .int .i64 0, .slice none 0 0, .int .i64 0] := heap1_0 W2 _
       have b3 : Below wr.heap.size wr (W2.alloc (.cells #[.int .i64 0, .int .i64 0, .slice none 0 0, .int .i64 0] 56)) := b2.alloc b2.size _
       have lg10 : wr.heap.size ≤ W2.heap.size := b2.size
       replace oy := World.ownsRow.alloc oy (.cells #[.int .i64 0, .int .i64 0, .slice none 0 0, .int .i64 0] 56)
       replace x9 := x9.alloc (.cells #[.int .i64 0, .int .i64 0, .slice none 0 0, .int .i64 0] 56)
       have S3 := HO.out _ b3
       refine hK.out _ _ (fun _ => S3) ?_
       clear hK K
       try simp only [Act.put, Last2.s]
       clear b2
       generalize W2.alloc (.cells #[.int .i64 0, .int .i64 0, .slice none 0 0, .int .i64 0] 56) = W3 at *
       generalize W2.heap.size = g10 at *
       have hne := ne_blkF x9 x10 (by decide)
       have z9 := x9.cells
       have f9 := x9.frozen
       refine Last2.last_one (i := 22) (o := { dst := none, op := .store 110 (.tmp 9) (.tmp 43), type := _, pos := _, after := _, guard := none }) (by kernel_rfl) rfl rfl (fun K hK => ?_)
       go_simp
       have y9 := set5 x9 (.slice A1 s.jobs.length c1) (.slice A2 s.hooks.length c2) (.slice A7 s1.says.length c7) (.int .i64 s1.code) (.int .i64 s1.shared)
       have y10 := far5 x10 hne.symm (.slice A1 s.jobs.length c1) (.slice A2 s.hooks.length c2) (.slice A7 s1.says.length c7) (.int .i64 s1.code) (.int .i64 s1.shared)
       have yo := own5 oy (blk_apart oy x9 (by decide)) (.slice A1 s.jobs.length c1) (.slice A2 s.hooks.length c2) (.slice A7 s1.says.length c7) (.int .i64 s1.code) (.int .i64 s1.shared)
       have yb := bel5 b3 lg9 (.slice A1 s.jobs.length c1) (.slice A2 s.hooks.length c2) (.slice A7 s1.says.length c7) (.int .i64 s1.code) (.int .i64 s1.shared)
       have SX := HO.out _ yb
       refine hK.out _ _ (fun _ => SX) ?_
       clear hK K
       try simp only [Act.put, Last2.s]
       clear z9 f9 x9 x10 oy b3
       have z10 := y10.cells
       have f10 := y10.frozen
       refine Last2.last_one (i := 23) (o := { dst := none, op := .store 56 (.tmp 10) (.tmp 44), type := _, pos := _, after := _, guard := none }) (by kernel_rfl) rfl rfl (fun K hK => ?_)
       go_simp
       refine hK.out _ _ (fun h => (h (by decide)).elim) ?_
       clear hK K
       try simp only [Act.put, Last2.s]
       refine Last2.last_done (by kernel_rfl) ?_ _
       (try go_wp2_with fail)
       go_meet
       exact ⟨g9, g10, A7, c7, A4, c4, rfl, rfl, far4 y9 hne (.int .i64 k) (.int .i64 v) (.slice A4 N c4) (.int .i64 sp), Blk.set4 y10 _ _ _ _, own4 yo (blk_apart yo y10 (by decide)) (.int .i64 k) (.int .i64 v) (.slice A4 N c4) (.int .i64 sp), bel4 yb lg10 (.int .i64 k) (.int .i64 v) (.slice A4 N c4) (.int .i64 sp)⟩
      ·go_simp
       have x10 : Blk (W1.alloc (.cells #[.int .i64 0, .int .i64 0, .slice none 0 0, .int .i64 0] 56)) W1.heap.size 56 #[.int .i64 0, .int .i64 0, .slice none 0 0, .int .i64 0] := heap1_0 W1 _
       have b2 : Below wr.heap.size wr (W1.alloc (.cells #[.int .i64 0, .int .i64 0, .slice none 0 0, .int .i64 0] 56)) := b1.alloc b1.size _
       have lg10 : wr.heap.size ≤ W1.heap.size := b1.size
       replace oy := World.ownsRow.alloc oy (.cells #[.int .i64 0, .int .i64 0, .slice none 0 0, .int .i64 0] 56)
       have S2 := HO.out _ b2
       refine hK.out _ _ (fun _ => S2) ?_
       clear hK K
       try simp only [Act.put, Last2.s]
       clear b1
       generalize W1.alloc (.cells #[.int .i64 0, .int .i64 0, .slice none 0 0, .int .i64 0] 56) = W2 at *
       generalize W1.heap.size = g10 at *
       refine Last2.last_one (i := 20) (o := { dst := some 9, op := .alloc 110, type := _, pos := _, after := _, guard := none }) (by kernel_rfl) rfl rfl (fun K hK => ?_)
       go_simp
       have x9 : Blk (W2.alloc (.cells #[.slice none 0 0, .slice none 0 0, .slice none 0 0, .int .i64 0, .int .i64 0] 110)) W2.heap.size 110 #[.slice none 0 0, .slice none 0 0, .slice none 0 0, .int .i64 0, .int .i64 0] := heap1_0 W2 _
       have b3 : Below wr.heap.size wr (W2.alloc (.cells #[.slice none 0 0, .slice none 0 0, .slice none 0 0, .int .i64 0, .int .i64 0] 110)) := b2.alloc b2.size _
       have lg9 : wr.heap.size ≤ W2.heap.size := b2.size
       replace oy := World.ownsRow.alloc oy (.cells #[.slice none 0 0, .slice none 0 0, .slice none 0 0, .int .i64 0, .int .i64 0] 110)
       replace x10 := x10.alloc (.cells #[.slice none 0 0, .slice none 0 0, .slice none 0 0, .int .i64 0, .int .i64 0] 110)
       have S3 := HO.out _ b3
       refine hK.out _ _ (fun _ => S3) ?_
       clear hK K
       try simp only [Act.put, Last2.s]
       clear b2
       generalize W2.alloc (.cells #[.slice none 0 0, .slice none 0 0, .slice none 0 0, .int .i64 0, .int .i64 0] 110) = W3 at *
       generalize W2.heap.size = g9 at *
       have hne := ne_blkF x9 x10 (by decide)
       have z9 := x9.cells
       have f9 := x9.frozen
       refine Last2.last_one (i := 22) (o := { dst := none, op := .store 110 (.tmp 9) (.tmp 43), type := _, pos := _, after := _, guard := none }) (by kernel_rfl) rfl rfl (fun K hK => ?_)
       go_simp
       have y9 := set5 x9 (.slice A1 s.jobs.length c1) (.slice A2 s.hooks.length c2) (.slice A7 s1.says.length c7) (.int .i64 s1.code) (.int .i64 s1.shared)
       have y10 := far5 x10 hne.symm (.slice A1 s.jobs.length c1) (.slice A2 s.hooks.length c2) (.slice A7 s1.says.length c7) (.int .i64 s1.code) (.int .i64 s1.shared)
       have yo := own5 oy (blk_apart oy x9 (by decide)) (.slice A1 s.jobs.length c1) (.slice A2 s.hooks.length c2) (.slice A7 s1.says.length c7) (.int .i64 s1.code) (.int .i64 s1.shared)
       have yb := bel5 b3 lg9 (.slice A1 s.jobs.length c1) (.slice A2 s.hooks.length c2) (.slice A7 s1.says.length c7) (.int .i64 s1.code) (.int .i64 s1.shared)
       have SX := HO.out _ yb
       refine hK.out _ _ (fun _ => SX) ?_
       clear hK K
       try simp only [Act.put, Last2.s]
       clear z9 f9 x9 x10 oy b3
       have z10 := y10.cells
       have f10 := y10.frozen
       refine Last2.last_one (i := 23) (o := { dst := none, op := .store 56 (.tmp 10) (.tmp 44), type := _, pos := _, after := _, guard := none }) (by kernel_rfl) rfl rfl (fun K hK => ?_)
       go_simp
       refine hK.out _ _ (fun h => (h (by decide)).elim) ?_
       clear hK K
       try simp only [Act.put, Last2.s]
       refine Last2.last_done (by kernel_rfl) ?_ _
       (try go_wp2_with fail)
       go_meet
       exact ⟨g9, g10, A7, c7, A4, c4, rfl, rfl, far4 y9 hne (.int .i64 k) (.int .i64 v) (.slice A4 N c4) (.int .i64 sp), Blk.set4 y10 _ _ _ _, own4 yo (blk_apart yo y10 (by decide)) (.int .i64 k) (.int .i64 v) (.slice A4 N c4) (.int .i64 sp), bel4 yb lg10 (.int .i64 k) (.int .i64 v) (.slice A4 N c4) (.int .i64 sp)⟩
     ·go_simp
      have x9 : Blk (W0.alloc (.cells #[.slice none 0 0, .slice none 0 0, .slice none 0 0, .int .i64 0, .int .i64 0] 110)) W0.heap.size 110 #[.slice none 0 0, .slice none 0 0, .slice none 0 0, .int .i64 0, .int .i64 0] := heap1_0 W0 _
      have b1 : Below wr.heap.size wr (W0.alloc (.cells #[.slice none 0 0, .slice none 0 0, .slice none 0 0, .int .i64 0, .int .i64 0] 110)) := b0.alloc b0.size _
      have lg9 : wr.heap.size ≤ W0.heap.size := b0.size
      have S1 := HO.out _ b1
      refine hK.out _ _ (fun _ => S1) ?_
      clear hK K
      try simp only [Act.put, Last2.s]
      clear b0
      generalize W0.alloc (.cells #[.slice none 0 0, .slice none 0 0, .slice none 0 0, .int .i64 0, .int .i64 0] 110) = W1 at *
      generalize W0.heap.size = g9 at *
      refine Last2.last_two (i := 16) (j := 21) (oi := { dst := some 42, op := .call { callee := .value (.func 114), args := #[.tmp 26, .tmp 27, .tmp 33, .tmp 39, .tmp 40, .tmp 41], argTypes := #[35, 39, 3, 3, 3, 110] }, type := _, pos := _, after := _, guard := _ }) (oj := { dst := some 10, op := .alloc 56, type := _, pos := _, after := _, guard := none }) (by kernel_rfl) rfl rfl rfl rfl (fun K hK => ?_) (fun K hK => ?_)
      ·go_simp
       refine (hC.out W1 b1).mono ?_
       rintro e W2 ⟨A7, c7, A4, c4, rfl, oy, bq⟩
       unfold outval
       dsimp only
       rw [HN.out]
       have b2 : Below wr.heap.size wr W2 := b1.trans (bq.mono b1.size)
       replace x9 := x9.below bq x9.lt
       replace oy : W2.ownsRow wr.heap.size 3 1 (.slice A7 s1.says.length c7) s1.says.length (cellsI s1.says) := own_mono oy b1.size
       have S2 := HO.out W2 b2
       refine hK.out _ _ (fun _ => S2) ?_
       clear hK K
       try simp only [Act.put, Last2.s]
       clear bq b1
       refine Last2.last_take (i := 17) (d := some 25) (v := .tuple #[.agg #[.slice A1 s.jobs.length c1, .slice A2 s.hooks.length c2, .slice A7 s1.says.length c7, .int .i64 s1.code, .int .i64 s1.shared], .agg #[.int .i64 k, .int .i64 v, .slice A4 N c4, .int .i64 sp]]) rfl rfl (by kernel_rfl) (by kernel_rfl) (by kernel_rfl) (fun _ _ _ h => h) rfl (by kernel_rfl) (by kernel_rfl) rfl ?_ S2 ?_
       ·(intro V hV; (try dsimp only at hV); go_simp; try with_reducible rfl)
       simp only [Act.put, Last2.s]
       refine Last2.last_take (i := 18) (d := some 43) (v := .agg #[.slice A1 s.jobs.length c1, .slice A2 s.hooks.length c2, .slice A7 s1.says.length c7, .int .i64 s1.code, .int .i64 s1.shared]) rfl rfl (by kernel_rfl) (by kernel_rfl) (by kernel_rfl) (fun _ _ _ h => h) rfl (by kernel_rfl) (by kernel_rfl) rfl ?_ S2 ?_
       ·(intro V hV; (try dsimp only at hV); go_simp; try with_reducible rfl)
       simp only [Act.put, Last2.s]
       refine Last2.last_take (i := 19) (d := some 44) (v := .agg #[.int .i64 k, .int .i64 v, .slice A4 N c4, .int .i64 sp]) rfl rfl (by kernel_rfl) (by kernel_rfl) (by kernel_rfl) (fun _ _ _ h => h) rfl (by kernel_rfl) (by kernel_rfl) rfl ?_ S2 ?_
       ·(intro V hV; (try dsimp only at hV); go_simp; try with_reducible rfl)
       simp only [Act.put, Last2.s]
       refine Last2.last_one (i := 21) (o := { dst := some 10, op := .alloc 56, type := _, pos := _, after := _, guard := none }) (by kernel_rfl) rfl rfl (fun K hK => ?_)
       go_simp
       have x10 : Blk (W2.alloc (.cells #[.int .i64 0, .int .i64 0, .slice none 0 0, .int .i64 0] 56)) W2.heap.size 56 #[.int .i64 0, .int .i64 0, .slice none 0 0, .int .i64 0] := heap1_0 W2 _
       have b3 : Below wr.heap.size wr (W2.alloc (.cells #[.int .i64 0, .int .i64 0, .slice none 0 0, .int .i64 0] 56)) := b2.alloc b2.size _
       have lg10 : wr.heap.size ≤ W2.heap.size := b2.size
       replace x9 := x9.alloc (.cells #[.int .i64 0, .int .i64 0, .slice none 0 0, .int .i64 0] 56)
       replace oy := World.ownsRow.alloc oy (.cells #[.int .i64 0, .int .i64 0, .slice none 0 0, .int .i64 0] 56)
       have S3 := HO.out _ b3
       refine hK.out _ _ (fun _ => S3) ?_
       clear hK K
       try simp only [Act.put, Last2.s]
       clear b2
       generalize W2.alloc (.cells #[.int .i64 0, .int .i64 0, .slice none 0 0, .int .i64 0] 56) = W3 at *
       generalize W2.heap.size = g10 at *
       have hne := ne_blkF x9 x10 (by decide)
       have z9 := x9.cells
       have f9 := x9.frozen
       refine Last2.last_one (i := 22) (o := { dst := none, op := .store 110 (.tmp 9) (.tmp 43), type := _, pos := _, after := _, guard := none }) (by kernel_rfl) rfl rfl (fun K hK => ?_)
       go_simp
       have y9 := set5 x9 (.slice A1 s.jobs.length c1) (.slice A2 s.hooks.length c2) (.slice A7 s1.says.length c7) (.int .i64 s1.code) (.int .i64 s1.shared)
       have y10 := far5 x10 hne.symm (.slice A1 s.jobs.length c1) (.slice A2 s.hooks.length c2) (.slice A7 s1.says.length c7) (.int .i64 s1.code) (.int .i64 s1.shared)
       have yo := own5 oy (blk_apart oy x9 (by decide)) (.slice A1 s.jobs.length c1) (.slice A2 s.hooks.length c2) (.slice A7 s1.says.length c7) (.int .i64 s1.code) (.int .i64 s1.shared)
       have yb := bel5 b3 lg9 (.slice A1 s.jobs.length c1) (.slice A2 s.hooks.length c2) (.slice A7 s1.says.length c7) (.int .i64 s1.code) (.int .i64 s1.shared)
       have SX := HO.out _ yb
       refine hK.out _ _ (fun _ => SX) ?_
       clear hK K
       try simp only [Act.put, Last2.s]
       clear z9 f9 x9 x10 oy b3
       have z10 := y10.cells
       have f10 := y10.frozen
       refine Last2.last_one (i := 23) (o := { dst := none, op := .store 56 (.tmp 10) (.tmp 44), type := _, pos := _, after := _, guard := none }) (by kernel_rfl) rfl rfl (fun K hK => ?_)
       go_simp
       refine hK.out _ _ (fun h => (h (by decide)).elim) ?_
       clear hK K
       try simp only [Act.put, Last2.s]
       refine Last2.last_done (by kernel_rfl) ?_ _
       (try go_wp2_with fail)
       go_meet
       exact ⟨g9, g10, A7, c7, A4, c4, rfl, rfl, far4 y9 hne (.int .i64 k) (.int .i64 v) (.slice A4 N c4) (.int .i64 sp), Blk.set4 y10 _ _ _ _, own4 yo (blk_apart yo y10 (by decide)) (.int .i64 k) (.int .i64 v) (.slice A4 N c4) (.int .i64 sp), bel4 yb lg10 (.int .i64 k) (.int .i64 v) (.slice A4 N c4) (.int .i64 sp)⟩
      ·go_simp
       have x10 : Blk (W1.alloc (.cells #[.int .i64 0, .int .i64 0, .slice none 0 0, .int .i64 0] 56)) W1.heap.size 56 #[.int .i64 0, .int .i64 0, .slice none 0 0, .int .i64 0] := heap1_0 W1 _
       have b2 : Below wr.heap.size wr (W1.alloc (.cells #[.int .i64 0, .int .i64 0, .slice none 0 0, .int .i64 0] 56)) := b1.alloc b1.size _
       have lg10 : wr.heap.size ≤ W1.heap.size := b1.size
       replace x9 := x9.alloc (.cells #[.int .i64 0, .int .i64 0, .slice none 0 0, .int .i64 0] 56)
       have S2 := HO.out _ b2
       refine hK.out _ _ (fun _ => S2) ?_
       clear hK K
       try simp only [Act.put, Last2.s]
       clear b1
       generalize W1.alloc (.cells #[.int .i64 0, .int .i64 0, .slice none 0 0, .int .i64 0] 56) = W2 at *
       generalize W1.heap.size = g10 at *
       refine Last2.last_one (i := 16) (o := { dst := some 42, op := .call { callee := .value (.func 114), args := #[.tmp 26, .tmp 27, .tmp 33, .tmp 39, .tmp 40, .tmp 41], argTypes := #[35, 39, 3, 3, 3, 110] }, type := _, pos := _, after := _, guard := _ }) (by kernel_rfl) rfl rfl (fun K hK => ?_)
       go_simp
       refine (hC.out W2 b2).mono ?_
       rintro e W3 ⟨A7, c7, A4, c4, rfl, oy, bq⟩
       unfold outval
       dsimp only
       rw [HN.out]
       have b3 : Below wr.heap.size wr W3 := b2.trans (bq.mono b2.size)
       replace x9 := x9.below bq x9.lt
       replace x10 := x10.below bq x10.lt
       replace oy : W3.ownsRow wr.heap.size 3 1 (.slice A7 s1.says.length c7) s1.says.length (cellsI s1.says) := own_mono oy b2.size
       have S3 := HO.out W3 b3
       refine hK.out _ _ (fun _ => S3) ?_
       clear hK K
       try simp only [Act.put, Last2.s]
       clear bq b2
       refine Last2.last_take (i := 17) (d := some 25) (v := .tuple #[.agg #[.slice A1 s.jobs.length c1, .slice A2 s.hooks.length c2, .slice A7 s1.says.length c7, .int .i64 s1.code, .int .i64 s1.shared], .agg #[.int .i64 k, .int .i64 v, .slice A4 N c4, .int .i64 sp]]) rfl rfl (by kernel_rfl) (by kernel_rfl) (by kernel_rfl) (fun _ _ _ h => h) rfl (by kernel_rfl) (by kernel_rfl) rfl ?_ S3 ?_
       ·(intro V hV; (try dsimp only at hV); go_simp; try with_reducible rfl)
       simp only [Act.put, Last2.s]
       refine Last2.last_take (i := 18) (d := some 43) (v := .agg #[.slice A1 s.jobs.length c1, .slice A2 s.hooks.length c2, .slice A7 s1.says.length c7, .int .i64 s1.code, .int .i64 s1.shared]) rfl rfl (by kernel_rfl) (by kernel_rfl) (by kernel_rfl) (fun _ _ _ h => h) rfl (by kernel_rfl) (by kernel_rfl) rfl ?_ S3 ?_
       ·(intro V hV; (try dsimp only at hV); go_simp; try with_reducible rfl)
       simp only [Act.put, Last2.s]
       refine Last2.last_take (i := 19) (d := some 44) (v := .agg #[.int .i64 k, .int .i64 v, .slice A4 N c4, .int .i64 sp]) rfl rfl (by kernel_rfl) (by kernel_rfl) (by kernel_rfl) (fun _ _ _ h => h) rfl (by kernel_rfl) (by kernel_rfl) rfl ?_ S3 ?_
       ·(intro V hV; (try dsimp only at hV); go_simp; try with_reducible rfl)
       simp only [Act.put, Last2.s]
       have hne := ne_blkF x9 x10 (by decide)
       have z9 := x9.cells
       have f9 := x9.frozen
       refine Last2.last_one (i := 22) (o := { dst := none, op := .store 110 (.tmp 9) (.tmp 43), type := _, pos := _, after := _, guard := none }) (by kernel_rfl) rfl rfl (fun K hK => ?_)
       go_simp
       have y9 := set5 x9 (.slice A1 s.jobs.length c1) (.slice A2 s.hooks.length c2) (.slice A7 s1.says.length c7) (.int .i64 s1.code) (.int .i64 s1.shared)
       have y10 := far5 x10 hne.symm (.slice A1 s.jobs.length c1) (.slice A2 s.hooks.length c2) (.slice A7 s1.says.length c7) (.int .i64 s1.code) (.int .i64 s1.shared)
       have yo := own5 oy (blk_apart oy x9 (by decide)) (.slice A1 s.jobs.length c1) (.slice A2 s.hooks.length c2) (.slice A7 s1.says.length c7) (.int .i64 s1.code) (.int .i64 s1.shared)
       have yb := bel5 b3 lg9 (.slice A1 s.jobs.length c1) (.slice A2 s.hooks.length c2) (.slice A7 s1.says.length c7) (.int .i64 s1.code) (.int .i64 s1.shared)
       have SX := HO.out _ yb
       refine hK.out _ _ (fun _ => SX) ?_
       clear hK K
       try simp only [Act.put, Last2.s]
       clear z9 f9 x9 x10 oy b3
       have z10 := y10.cells
       have f10 := y10.frozen
       refine Last2.last_one (i := 23) (o := { dst := none, op := .store 56 (.tmp 10) (.tmp 44), type := _, pos := _, after := _, guard := none }) (by kernel_rfl) rfl rfl (fun K hK => ?_)
       go_simp
       refine hK.out _ _ (fun h => (h (by decide)).elim) ?_
       clear hK K
       try simp only [Act.put, Last2.s]
       refine Last2.last_done (by kernel_rfl) ?_ _
       (try go_wp2_with fail)
       go_meet
       exact ⟨g9, g10, A7, c7, A4, c4, rfl, rfl, far4 y9 hne (.int .i64 k) (.int .i64 v) (.slice A4 N c4) (.int .i64 sp), Blk.set4 y10 _ _ _ _, own4 yo (blk_apart yo y10 (by decide)) (.int .i64 k) (.int .i64 v) (.slice A4 N c4) (.int .i64 sp), bel4 yb lg10 (.int .i64 k) (.int .i64 v) (.slice A4 N c4) (.int .i64 sp)⟩
     ·go_simp
      have x10 : Blk (W0.alloc (.cells #[.int .i64 0, .int .i64 0, .slice none 0 0, .int .i64 0] 56)) W0.heap.size 56 #[.int .i64 0, .int .i64 0, .slice none 0 0, .int .i64 0] := heap1_0 W0 _
      have b1 : Below wr.heap.size wr (W0.alloc (.cells #[.int .i64 0, .int .i64 0, .slice none 0 0, .int .i64 0] 56)) := b0.alloc b0.size _
      have lg10 : wr.heap.size ≤ W0.heap.size := b0.size
      have S1 := HO.out _ b1
      refine hK.out _ _ (fun _ => S1) ?_
      clear hK K
      try simp only [Act.put, Last2.s]
      clear b0
      generalize W0.alloc (.cells #[.int .i64 0, .int .i64 0, .slice none 0 0, .int .i64 0] 56) = W1 at *
      generalize W0.heap.size = g10 at *
      refine Last2.last_two (i := 16) (j := 20) (oi := { dst := some 42, op := .call { callee := .value (.func 114), args := #[.tmp 26, .tmp 27, .tmp 33, .tmp 39, .tmp 40, .tmp 41], argTypes := #[35, 39, 3, 3, 3, 110] }, type := _, pos := _, after := _, guard := _ }) (oj := { dst := some 9, op := .alloc 110, type := _, pos := _, after := _, guard := none }) (by kernel_rfl) rfl rfl rfl rfl (fun K hK => ?_) (fun K hK => ?_)
      ·go_simp
       refine (hC.out W1 b1).mono ?_
       rintro e W2 ⟨A7, c7, A4, c4, rfl, oy, bq⟩
       unfold outval
       dsimp only
       rw [HN.out]
       have b2 : Below wr.heap.size wr W2 := b1.trans (bq.mono b1.size)
       replace x10 := x10.below bq x10.lt
       replace oy : W2.ownsRow wr.heap.size 3 1 (.slice A7 s1.says.length c7) s1.says.length (cellsI s1.says) := own_mono oy b1.size
       have S2 := HO.out W2 b2
       refine hK.out _ _ (fun _ => S2) ?_
       clear hK K
       try simp only [Act.put, Last2.s]
       clear bq b1
       refine Last2.last_take (i := 17) (d := some 25) (v := .tuple #[.agg #[.slice A1 s.jobs.length c1, .slice A2 s.hooks.length c2, .slice A7 s1.says.length c7, .int .i64 s1.code, .int .i64 s1.shared], .agg #[.int .i64 k, .int .i64 v, .slice A4 N c4, .int .i64 sp]]) rfl rfl (by kernel_rfl) (by kernel_rfl) (by kernel_rfl) (fun _ _ _ h => h) rfl (by kernel_rfl) (by kernel_rfl) rfl ?_ S2 ?_
       ·(intro V hV; (try dsimp only at hV); go_simp; try with_reducible rfl)
       simp only [Act.put, Last2.s]
       refine Last2.last_take (i := 18) (d := some 43) (v := .agg #[.slice A1 s.jobs.length c1, .slice A2 s.hooks.length c2, .slice A7 s1.says.length c7, .int .i64 s1.code, .int .i64 s1.shared]) rfl rfl (by kernel_rfl) (by kernel_rfl) (by kernel_rfl) (fun _ _ _ h => h) rfl (by kernel_rfl) (by kernel_rfl) rfl ?_ S2 ?_
       ·(intro V hV; (try dsimp only at hV); go_simp; try with_reducible rfl)
       simp only [Act.put, Last2.s]
       refine Last2.last_take (i := 19) (d := some 44) (v := .agg #[.int .i64 k, .int .i64 v, .slice A4 N c4, .int .i64 sp]) rfl rfl (by kernel_rfl) (by kernel_rfl) (by kernel_rfl) (fun _ _ _ h => h) rfl (by kernel_rfl) (by kernel_rfl) rfl ?_ S2 ?_
       ·(intro V hV; (try dsimp only at hV); go_simp; try with_reducible rfl)
       simp only [Act.put, Last2.s]
       refine Last2.last_one (i := 20) (o := { dst := some 9, op := .alloc 110, type := _, pos := _, after := _, guard := none }) (by kernel_rfl) rfl rfl (fun K hK => ?_)
       go_simp
       have x9 : Blk (W2.alloc (.cells #[.slice none 0 0, .slice none 0 0, .slice none 0 0, .int .i64 0, .int .i64 0] 110)) W2.heap.size 110 #[.slice none 0 0, .slice none 0 0, .slice none 0 0, .int .i64 0, .int .i64 0] := heap1_0 W2 _
       have b3 : Below wr.heap.size wr (W2.alloc (.cells #[.slice none 0 0, .slice none 0 0, .slice none 0 0, .int .i64 0, .int .i64 0] 110)) := b2.alloc b2.size _
       have lg9 : wr.heap.size ≤ W2.heap.size := b2.size
       replace x10 := x10.alloc (.cells #[.slice none 0 0, .slice none 0 0, .slice none 0 0, .int .i64 0, .int .i64 0] 110)
       replace oy := World.ownsRow.alloc oy (.cells #[.slice none 0 0, .slice none 0 0, .slice none 0 0, .int .i64 0, .int .i64 0] 110)
       have S3 := HO.out _ b3
       refine hK.out _ _ (fun _ => S3) ?_
       clear hK K
       try simp only [Act.put, Last2.s]
       clear b2
       generalize W2.alloc (.cells #[.slice none 0 0, .slice none 0 0, .slice none 0 0, .int .i64 0, .int .i64 0] 110) = W3 at *
       generalize W2.heap.size = g9 at *
       have hne := ne_blkF x9 x10 (by decide)
       have z9 := x9.cells
       have f9 := x9.frozen
       refine Last2.last_one (i := 22) (o := { dst := none, op := .store 110 (.tmp 9) (.tmp 43), type := _, pos := _, after := _, guard := none }) (by kernel_rfl) rfl rfl (fun K hK => ?_)
       go_simp
       have y9 := set5 x9 (.slice A1 s.jobs.length c1) (.slice A2 s.hooks.length c2) (.slice A7 s1.says.length c7) (.int .i64 s1.code) (.int .i64 s1.shared)
       have y10 := far5 x10 hne.symm (.slice A1 s.jobs.length c1) (.slice A2 s.hooks.length c2) (.slice A7 s1.says.length c7) (.int .i64 s1.code) (.int .i64 s1.shared)
       have yo := own5 oy (blk_apart oy x9 (by decide)) (.slice A1 s.jobs.length c1) (.slice A2 s.hooks.length c2) (.slice A7 s1.says.length c7) (.int .i64 s1.code) (.int .i64 s1.shared)
       have yb := bel5 b3 lg9 (.slice A1 s.jobs.length c1) (.slice A2 s.hooks.length c2) (.slice A7 s1.says.length c7) (.int .i64 s1.code) (.int .i64 s1.shared)
       have SX := HO.out _ yb
       refine hK.out _ _ (fun _ => SX) ?_
       clear hK K
       try simp only [Act.put, Last2.s]
       clear z9 f9 x9 x10 oy b3
       have z10 := y10.cells
       have f10 := y10.frozen
       refine Last2.last_one (i := 23) (o := { dst := none, op := .store 56 (.tmp 10) (.tmp 44), type := _, pos := _, after := _, guard := none }) (by kernel_rfl) rfl rfl (fun K hK => ?_)
       go_simp
       refine hK.out _ _ (fun h => (h (by decide)).elim) ?_
       clear hK K
       try simp only [Act.put, Last2.s]
       refine Last2.last_done (by kernel_rfl) ?_ _
       (try go_wp2_with fail)
       go_meet
       exact ⟨g9, g10, A7, c7, A4, c4, rfl, rfl, far4 y9 hne (.int .i64 k) (.int .i64 v) (.slice A4 N c4) (.int .i64 sp), Blk.set4 y10 _ _ _ _, own4 yo (blk_apart yo y10 (by decide)) (.int .i64 k) (.int .i64 v) (.slice A4 N c4) (.int .i64 sp), bel4 yb lg10 (.int .i64 k) (.int .i64 v) (.slice A4 N c4) (.int .i64 sp)⟩
      ·go_simp
       have x9 : Blk (W1.alloc (.cells #[.slice none 0 0, .slice none 0 0, .slice none 0 0, .int .i64 0, .int .i64 0] 110)) W1.heap.size 110 #[.slice none 0 0, .slice none 0 0, .slice none 0 0, .int .i64 0, .int .i64 0] := heap1_0 W1 _
       have b2 : Below wr.heap.size wr (W1.alloc (.cells #[.slice none 0 0, .slice none 0 0, .slice none 0 0, .int .i64 0, .int .i64 0] 110)) := b1.alloc b1.size _
       have lg9 : wr.heap.size ≤ W1.heap.size := b1.size
       replace x10 := x10.alloc (.cells #[.slice none 0 0, .slice none 0 0, .slice none 0 0, .int .i64 0, .int .i64 0] 110)
       have S2 := HO.out _ b2
       refine hK.out _ _ (fun _ => S2) ?_
       clear hK K
       try simp only [Act.put, Last2.s]
       clear b1
       generalize W1.alloc (.cells #[.slice none 0 0, .slice none 0 0, .slice none 0 0, .int .i64 0, .int .i64 0] 110) = W2 at *
       generalize W1.heap.size = g9 at *
       refine Last2.last_one (i := 16) (o := { dst := some 42, op := .call { callee := .value (.func 114), args := #[.tmp 26, .tmp 27, .tmp 33, .tmp 39, .tmp 40, .tmp 41], argTypes := #[35, 39, 3, 3, 3, 110] }, type := _, pos := _, after := _, guard := _ }) (by kernel_rfl) rfl rfl (fun K hK => ?_)
       go_simp
       refine (hC.out W2 b2).mono ?_
       rintro e W3 ⟨A7, c7, A4, c4, rfl, oy, bq⟩
       unfold outval
       dsimp only
       rw [HN.out]
       have b3 : Below wr.heap.size wr W3 := b2.trans (bq.mono b2.size)
       replace x10 := x10.below bq x10.lt
       replace x9 := x9.below bq x9.lt
       replace oy : W3.ownsRow wr.heap.size 3 1 (.slice A7 s1.says.length c7) s1.says.length (cellsI s1.says) := own_mono oy b2.size
       have S3 := HO.out W3 b3
       refine hK.out _ _ (fun _ => S3) ?_
       clear hK K
       try simp only [Act.put, Last2.s]
       clear bq b2
       refine Last2.last_take (i := 17) (d := some 25) (v := .tuple #[.agg #[.slice A1 s.jobs.length c1, .slice A2 s.hooks.length c2, .slice A7 s1.says.length c7, .int .i64 s1.code, .int .i64 s1.shared], .agg #[.int .i64 k, .int .i64 v, .slice A4 N c4, .int .i64 sp]]) rfl rfl (by kernel_rfl) (by kernel_rfl) (by kernel_rfl) (fun _ _ _ h => h) rfl (by kernel_rfl) (by kernel_rfl) rfl ?_ S3 ?_
       ·(intro V hV; (try dsimp only at hV); go_simp; try with_reducible rfl)
       simp only [Act.put, Last2.s]
       refine Last2.last_take (i := 18) (d := some 43) (v := .agg #[.slice A1 s.jobs.length c1, .slice A2 s.hooks.length c2, .slice A7 s1.says.length c7, .int .i64 s1.code, .int .i64 s1.shared]) rfl rfl (by kernel_rfl) (by kernel_rfl) (by kernel_rfl) (fun _ _ _ h => h) rfl (by kernel_rfl) (by kernel_rfl) rfl ?_ S3 ?_
       ·(intro V hV; (try dsimp only at hV); go_simp; try with_reducible rfl)
       simp only [Act.put, Last2.s]
       refine Last2.last_take (i := 19) (d := some 44) (v := .agg #[.int .i64 k, .int .i64 v, .slice A4 N c4, .int .i64 sp]) rfl rfl (by kernel_rfl) (by kernel_rfl) (by kernel_rfl) (fun _ _ _ h => h) rfl (by kernel_rfl) (by kernel_rfl) rfl ?_ S3 ?_
       ·(intro V hV; (try dsimp only at hV); go_simp; try with_reducible rfl)
       simp only [Act.put, Last2.s]
       have hne := ne_blkF x9 x10 (by decide)
       have z9 := x9.cells
       have f9 := x9.frozen
       refine Last2.last_one (i := 22) (o := { dst := none, op := .store 110 (.tmp 9) (.tmp 43), type := _, pos := _, after := _, guard := none }) (by kernel_rfl) rfl rfl (fun K hK => ?_)
       go_simp
       have y9 := set5 x9 (.slice A1 s.jobs.length c1) (.slice A2 s.hooks.length c2) (.slice A7 s1.says.length c7) (.int .i64 s1.code) (.int .i64 s1.shared)
       have y10 := far5 x10 hne.symm (.slice A1 s.jobs.length c1) (.slice A2 s.hooks.length c2) (.slice A7 s1.says.length c7) (.int .i64 s1.code) (.int .i64 s1.shared)
       have yo := own5 oy (blk_apart oy x9 (by decide)) (.slice A1 s.jobs.length c1) (.slice A2 s.hooks.length c2) (.slice A7 s1.says.length c7) (.int .i64 s1.code) (.int .i64 s1.shared)
       have yb := bel5 b3 lg9 (.slice A1 s.jobs.length c1) (.slice A2 s.hooks.length c2) (.slice A7 s1.says.length c7) (.int .i64 s1.code) (.int .i64 s1.shared)
       have SX := HO.out _ yb
       refine hK.out _ _ (fun _ => SX) ?_
       clear hK K
       try simp only [Act.put, Last2.s]
       clear z9 f9 x9 x10 oy b3
       have z10 := y10.cells
       have f10 := y10.frozen
       refine Last2.last_one (i := 23) (o := { dst := none, op := .store 56 (.tmp 10) (.tmp 44), type := _, pos := _, after := _, guard := none }) (by kernel_rfl) rfl rfl (fun K hK => ?_)
       go_simp
       refine hK.out _ _ (fun h => (h (by decide)).elim) ?_
       clear hK K
       try simp only [Act.put, Last2.s]
       refine Last2.last_done (by kernel_rfl) ?_ _
       (try go_wp2_with fail)
       go_meet
       exact ⟨g9, g10, A7, c7, A4, c4, rfl, rfl, far4 y9 hne (.int .i64 k) (.int .i64 v) (.slice A4 N c4) (.int .i64 sp), Blk.set4 y10 _ _ _ _, own4 yo (blk_apart yo y10 (by decide)) (.int .i64 k) (.int .i64 v) (.slice A4 N c4) (.int .i64 sp), bel4 yb lg10 (.int .i64 k) (.int .i64 v) (.slice A4 N c4) (.int .i64 sp)⟩
    case rest =>
     obtain ⟨g9, g10, A7, c7, A4, c4, rfl, rfl, x9, x10, oy, bx⟩ := hcut
     have SX := SR.out.below bx
     have zb := SX.blk.cells
     have fb := SX.blk.frozen
     have z9 := x9.cells
     have hsz := bx.size
     have hg107 : g10 ≠ b7 := ne_blkF x10 SX.blk (by decide)
     have X10 := hid x10
     have SXh := hid SX
     have OY := hid (own_mono (B' := w.heap.size) oy HBW.out.size)
     clear SX x10 x9 oy bx HO S0 hlt9
     go_upto_region 7 with fail
     change (fun V => Code.wp _ _ _ _ V) _
     refine gen_world (X := fun V => Sn w1 b7 w.heap.size s1 (.slice A1 s1.jobs.length c1) (.slice A2 s1.hooks.length c2) (.slice A7 s1.says.length c7) V ∧ Blk V g10 56 #[.int .i64 k, .int .i64 v, .slice A4 N c4, .int .i64 sp]) ⟨?_, ?_⟩ ?_
     ·rw [E1.out, E2.out]
      exact SXh.out.put5 (by rw [E1.out]; exact SXh.out.j) (by rw [E2.out]; exact SXh.out.h) OY.out
     ·exact far5 X10.out hg107 _ _ _ _ _
     clear zb fb z9 X10 SXh OY
     rintro V ⟨q1, q2⟩
     have SV := hid q1
     have X10 := hid q2
     have hVw : w.heap.size ≤ V.heap.size := Nat.le_trans hw1 q1.chg.size
     clear q1 q2
     have HO := hid (fun (U : World) (b : Below V.heap.size V U) => (show (fun V : World => V.cell? ⟨b7, 0, none⟩ = some (.slice A1 s1.jobs.length c1) ∧ V.cell? ⟨g10, 0, none⟩ = some (.int .i64 k)) U from ⟨(SV.out.blk.below b SV.out.blk.lt).cells 0, (X10.out.below b X10.out.lt).cells 0⟩))
     have b0 : Below V.heap.size V V.drew := (Below.refl _ _).drew
     have S0 := HO.out V.drew b0
     go_cut [] from 46 to 53 (fun wx => ∃ v', Sn w1 b7 w.heap.size { s1 with jobs := s1.jobs ++ [k] } v' (.slice A2 s1.hooks.length c2) (.slice A7 s1.says.length c7) wx ∧ Blk wx g10 56 #[.int .i64 k, .int .i64 v, .slice A4 N c4, .int .i64 sp])
     case first =>
      refine Last2.region_last [8] (fun V : World => V.cell? ⟨b7, 0, none⟩ = some (.slice A1 s1.jobs.length c1) ∧ V.cell? ⟨g10, 0, none⟩ = some (.int .i64 k)) (by kernel_rfl) ?_
      generalize V.drew = U0 at *
      refine tk 0 46 (.pointer (some ⟨b7, 0, none⟩)) S0 ?_
      simp only [Act.put, Last2.s]
      refine tk 1 47 (.slice A1 s1.jobs.length c1) S0 ?_
      simp only [Act.put, Last2.s]
      refine tk 3 49 (.pointer (some ⟨g10, 0, none⟩)) S0 ?_
      simp only [Act.put, Last2.s]
      refine tk 4 50 (.int .i64 k) S0 ?_
      simp only [Act.put, Last2.s]
      refine Last2.last_two (i := 2) (j := 5) (oi := { dst := some 48, op := .call { callee := .value (.func 115), args := #[.tmp 47], argTypes := #[26] }, type := _, pos := _, after := _, guard := none }) (oj := { dst := some 51, op := .buildSlice 26 1 #[(0, .tmp 50)], type := _, pos := _, after := _, guard := none }) (by kernel_rfl) rfl rfl rfl rfl (fun K hK => ?_) (fun K hK => ?_)
      ·go_simp
       refine (l1Own_any w.heap.size A1 s1.jobs.length c1 s1.jobs (by omega) rfl U0 (own_below SV.out.j b0 (Nat.le_refl _))).mono ?_
       rintro e U1 ⟨A8, c8, rfl, o8, bq⟩
       have b1 : Below V.heap.size V U1 := b0.trans (bq.mono b0.size)
       unfold OwnI at o8
       replace o8 := own_mono (B' := V.heap.size) o8 b0.size
       have SS := HO.out _ b1
       refine hK.out _ _ (fun _ => SS) ?_
       clear hK K
       try simp only [Act.put, Last2.s]
       clear bq b0
       refine Last2.last_one (i := 5) (o := { dst := some 51, op := .buildSlice 26 1 #[(0, .tmp 50)], type := _, pos := _, after := _, guard := none }) (by kernel_rfl) rfl rfl (fun K hK => ?_)
       go_simp
       have p0 := App.one_own (heap1_0 U1 (.cells #[.int .i64 k] 3))
       have b2 : Below V.heap.size V (U1.alloc (.cells #[.int .i64 k] 3)) := b1.alloc b1.size _
       replace o8 := World.ownsRow.alloc o8 (.cells #[.int .i64 k] 3)
       have SS := HO.out _ b2
       refine hK.out _ _ (fun _ => SS) ?_
       clear hK K
       try simp only [Act.put, Last2.s]
       clear b1
       generalize U1.alloc (.cells #[.int .i64 k] 3) = W2 at *
       refine Last2.last_one (i := 6) (o := { dst := some 52, op := .call { callee := .builtin .append, args := #[.tmp 48, .tmp 51], argTypes := #[26, 26] }, type := _, pos := _, after := _, guard := none }) (by kernel_rfl) rfl rfl (fun K hK => ?_)
       refine App.row_wp _ (.tmp 48) (.tmp 51) 26 rfl V.heap.size 0 3 i0 _ 1 8 Try.underlying26 hi hz0 hz1 hz2 rfl (by decide) _ _ _ rfl o8 _ 1 [.int .i64 k] rfl p0 (by intro u hu; simp at hu; rcases hu with rfl; rfl) (by unfold maxLen; omega) (by omega) b2.size ?_
       intro v' W3 o9 g9' t9
       obtain ⟨A9, c9, rfl⟩ := own_slice o9
       have ch : Chg (fun x => (Value.slice A8 s1.jobs.length c8).ownBlock = some x) W2 W3 := (Chg.of_grown g9').mono (fun x _ hx => hx.symm)
       have b3 : Below V.heap.size V W3 := b2.trans (ch.below b2.size (fun x hx e => by have := (World.ownsRow.lt o8 x e).1; omega))
       have SY := SV.out.below b3
       have X10b := X10.out.below b3 X10.out.lt
       have SS3 := HO.out W3 b3
       have k7 := SS3.1
       have f7 : W3.frozen? ⟨b7, 0, none⟩ = false := SY.blk.frozen 0
       replace o9 := own_mono (B' := w.heap.size) o9 hVw
       refine hK.out _ _ (fun _ => SS3) ?_
       clear hK K
       try simp only [Act.put, Last2.s]
       clear b2 b3 o8 p0 g9' t9 ch
       refine Last2.last_one (i := 7) (o := { dst := some 53, op := .fieldAddr 110 (.tmp 7) 0, type := _, pos := _, after := _, guard := none }) (by kernel_rfl) rfl rfl (fun K hK => ?_)
       go_simp
       refine hK.out _ _ (fun _ => SS3) ?_
       clear hK K
       try simp only [Act.put, Last2.s]
       refine Last2.last_one (i := 8) (o := { dst := none, op := .store 26 (.tmp 53) (.tmp 52), type := _, pos := _, after := _, guard := none }) (by kernel_rfl) rfl rfl (fun K hK => ?_)
       go_simp
       refine hK.out _ _ (fun h => (h (by decide)).elim) ?_
       clear hK K
       try simp only [Act.put, Last2.s]
       refine Last2.last_done (by kernel_rfl) ?_ _
       (try go_wp2_with fail)
       go_meet
       exact ⟨_, SY.job (z := k) (by unfold OwnI; rw [List.length_append, List.length_singleton, cellsI_append]; exact o9), X10b.far _ _ hg107⟩
      ·go_simp
       have p0 := App.one_own (heap1_0 U0 (.cells #[.int .i64 k] 3))
       have b1 : Below V.heap.size V (U0.alloc (.cells #[.int .i64 k] 3)) := b0.alloc b0.size _
       have SS := HO.out _ b1
       refine hK.out _ _ (fun _ => SS) ?_
       clear hK K
       try simp only [Act.put, Last2.s]
       clear b0
       generalize U0.alloc (.cells #[.int .i64 k] 3) = U1 at *
       refine Last2.last_one (i := 2) (o := { dst := some 48, op := .call { callee := .value (.func 115), args := #[.tmp 47], argTypes := #[26] }, type := _, pos := _, after := _, guard := none }) (by kernel_rfl) rfl rfl (fun K hK => ?_)
       go_simp
       refine (l1Own_any w.heap.size A1 s1.jobs.length c1 s1.jobs (by omega) rfl U1 (own_below SV.out.j b1 (Nat.le_refl _))).mono ?_
       rintro e W2 ⟨A8, c8, rfl, o8, bq⟩
       have b2 : Below V.heap.size V W2 := b1.trans (bq.mono b1.size)
       unfold OwnI at o8
       replace o8 := own_mono (B' := V.heap.size) o8 b1.size
       replace p0 := own_below p0 bq (Nat.le_refl _)
       have SS := HO.out _ b2
       refine hK.out _ _ (fun _ => SS) ?_
       clear hK K
       try simp only [Act.put, Last2.s]
       clear bq b1
       refine Last2.last_one (i := 6) (o := { dst := some 52, op := .call { callee := .builtin .append, args := #[.tmp 48, .tmp 51], argTypes := #[26, 26] }, type := _, pos := _, after := _, guard := none }) (by kernel_rfl) rfl rfl (fun K hK => ?_)
       refine App.row_wp _ (.tmp 48) (.tmp 51) 26 rfl V.heap.size 0 3 i0 _ 1 8 Try.underlying26 hi hz0 hz1 hz2 rfl (by decide) _ _ _ rfl o8 _ 1 [.int .i64 k] rfl p0 (by intro u hu; simp at hu; rcases hu with rfl; rfl) (by unfold maxLen; omega) (by omega) b2.size ?_
       intro v' W3 o9 g9' t9
       obtain ⟨A9, c9, rfl⟩ := own_slice o9
       have ch : Chg (fun x => (Value.slice A8 s1.jobs.length c8).ownBlock = some x) W2 W3 := (Chg.of_grown g9').mono (fun x _ hx => hx.symm)
       have b3 : Below V.heap.size V W3 := b2.trans (ch.below b2.size (fun x hx e => by have := (World.ownsRow.lt o8 x e).1; omega))
       have SY := SV.out.below b3
       have X10b := X10.out.below b3 X10.out.lt
       have SS3 := HO.out W3 b3
       have k7 := SS3.1
       have f7 : W3.frozen? ⟨b7, 0, none⟩ = false := SY.blk.frozen 0
       replace o9 := own_mono (B' := w.heap.size) o9 hVw
       refine hK.out _ _ (fun _ => SS3) ?_
       clear hK K
       try simp only [Act.put, Last2.s]
       clear b2 b3 o8 p0 g9' t9 ch
       refine Last2.last_one (i := 7) (o := { dst := some 53, op := .fieldAddr 110 (.tmp 7) 0, type := _, pos := _, after := _, guard := none }) (by kernel_rfl) rfl rfl (fun K hK => ?_)
       go_simp
       refine hK.out _ _ (fun _ => SS3) ?_
       clear hK K
       try simp only [Act.put, Last2.s]
       refine Last2.last_one (i := 8) (o := { dst := none, op := .store 26 (.tmp 53) (.tmp 52), type := _, pos := _, after := _, guard := none }) (by kernel_rfl) rfl rfl (fun K hK => ?_)
       go_simp
       refine hK.out _ _ (fun h => (h (by decide)).elim) ?_
       clear hK K
       try simp only [Act.put, Last2.s]
       refine Last2.last_done (by kernel_rfl) ?_ _
       (try go_wp2_with fail)
       go_meet
       exact ⟨_, SY.job (z := k) (by unfold OwnI; rw [List.length_append, List.length_singleton, cellsI_append]; exact o9), X10b.far _ _ hg107⟩
     case rest =>
      obtain ⟨v', q1, q2⟩ := hcut
      clear SV X10 HO S0 b0
      obtain ⟨A8, c8, rfl⟩ := own_slice q1.j
      generalize wc = V at *
      have SV := hid q1
      have X10 := hid q2
      clear q1 q2 hVw
      have HO := hid (fun (U : World) (b : Below V.heap.size V U) => (show (fun V : World => V.cell? ⟨b7, 3, none⟩ = some (.int .i64 s1.code) ∧ (∀ o, V.cell? ⟨g10, o, none⟩ = (#[.int .i64 k, .int .i64 v, .slice A4 N c4, .int .i64 sp] : Array Value)[o]?)) U from ⟨(SV.out.blk.below b SV.out.blk.lt).cells 3, (X10.out.below b X10.out.lt).cells⟩))
      have b0 : Below V.heap.size V V.drew := (Below.refl _ _).drew
      have S0 := HO.out V.drew b0
      go_wp2_with fail
      refine Last2.region_last [6] (fun V : World => V.cell? ⟨b7, 3, none⟩ = some (.int .i64 s1.code) ∧ (∀ o, V.cell? ⟨g10, o, none⟩ = (#[.int .i64 k, .int .i64 v, .slice A4 N c4, .int .i64 sp] : Array Value)[o]?)) (by kernel_rfl) ?_
      generalize V.drew = U0 at *
      refine tk 0 54 (.pointer (some ⟨b7, 3, none⟩)) S0 ?_
      simp only [Act.put, Last2.s]
      refine tk 1 55 (.int .i64 s1.code) S0 ?_
      simp only [Act.put, Last2.s]
      refine tk 2 56 (.agg #[.int .i64 k, .int .i64 v, .slice A4 N c4, .int .i64 sp]) S0 ?_
      simp only [Act.put, Last2.s]
      refine Last2.last_one (i := 3) (o := { dst := some 57, op := .call { callee := .value (.func 70), args := #[.tmp 56], argTypes := #[56] }, type := _, pos := _, after := _, guard := none }) (by kernel_rfl) rfl rfl (fun K hK => ?_)
      go_simp
      refine (hco.out A4 c4 _).mono ?_
      rintro e U1 ⟨rfl, bq⟩
      have b1 : Below V.heap.size V U1 := b0.trans (bq.mono b0.size)
      have S1 := HO.out U1 b1
      refine hK.out _ _ (fun _ => S1) ?_
      clear hK K
      try simp only [Act.put, Last2.s]
      refine Last2.last_one (i := 4) (o := { dst := some 58, op := .call { callee := .value (.func 116), args := #[.tmp 55, .tmp 57], argTypes := #[3, 3] }, type := _, pos := _, after := _, guard := none }) (by kernel_rfl) rfl rfl (fun K hK => ?_)
      go_simp
      refine (hmo.out _).mono ?_
      rintro e U2 ⟨rfl, rfl⟩
      have k7 := S1.1
      have SY := SV.out.below b1
      have f7 : U1.frozen? ⟨b7, 3, none⟩ = false := SY.blk.frozen 3
      refine hK.out _ _ (fun _ => S1) ?_
      clear hK K
      try simp only [Act.put, Last2.s]
      refine Last2.last_one (i := 5) (o := { dst := some 59, op := .fieldAddr 110 (.tmp 7) 3, type := _, pos := _, after := _, guard := none }) (by kernel_rfl) rfl rfl (fun K hK => ?_)
      go_simp
      refine hK.out _ _ (fun _ => S1) ?_
      clear hK K
      try simp only [Act.put, Last2.s]
      refine Last2.last_one (i := 6) (o := { dst := none, op := .store 3 (.tmp 59) (.tmp 58), type := _, pos := _, after := _, guard := none }) (by kernel_rfl) rfl rfl (fun K hK => ?_)
      go_simp
      refine hK.out _ _ (fun h => (h (by decide)).elim) ?_
      clear hK K
      try simp only [Act.put, Last2.s]
      refine Last2.last_done (by kernel_rfl) ?_ _
      (try change (fun V => Exit.then _ _ _ _ V) _)
      have X10b := (X10.out.below b1 X10.out.lt).far ⟨b7, 3, none⟩ (.int .i64 mc) hg107
      refine gen_world (X := fun V => Sn w1 b7 w.heap.size { s1 with jobs := s1.jobs ++ [k], code := mc } (.slice A8 ({ s1 with jobs := s1.jobs ++ [k] } : Sen).jobs.length c8) (.slice A2 s1.hooks.length c2) (.slice A7 s1.says.length c7) V ∧ Blk V g10 56 #[.int .i64 k, .int .i64 v, .slice A4 N c4, .int .i64 sp]) ⟨SY.coded mc, X10b⟩ ?_
      clear S0 S1 HO SV X10 X10b SY k7 f7 b0 b1 bq
      rintro U ⟨q1, q2⟩
      have zmode : U.cell? ⟨w.heap.size + 1, 2, none⟩ = some (.int .i64 mode) := (Q1.out.chg q1.chg hb1).cells 2
      have zk : U.cell? ⟨g10, 0, none⟩ = some (.int .i64 k) := q2.cells 0
      have SF := hid q1
      clear q1 q2
      by_cases m2 : mode = 2
      ·by_cases k1 : k = 1
       ·have hg := hgo2
        rw [m2, k1, if_pos (by decide)] at hg
        have HGN := hid (show jobsS p fuel mode (js.drop (k0 + 1)) (jobS p fuel mode s (jf, ja)) = JF by rw [m2]; exact hg)
        have M2 : (mode == 2) = true := by simpa using m2
        have K1 : (k == 1) = true := by simpa using k1
        clear hg hgo2 m2 k1
        go_wp2_with fail
        go_roundw
        case rel => exact ⟨k0 + 1, jobS p fuel mode s (jf, ja), _, _, _, by omega, by go_num, by rw [HJS.out]; exact SF.out, HW2.out, HGN⟩
        case measure => simp [intOf]; omega
       ·have M2 : (mode == 2) = true := by simpa using m2
        have K1 : (k == 1) = false := by simpa using k1
        have hg := hgo2
        rw [M2, K1, if_neg (by decide)] at hg
        have HGN := hid hg
        clear hg hgo2 m2 k1
        go_wp2_with fail
        go_meet
        exact ⟨_, _, _, by rw [← HGN.out, HJS.out]; exact SF.out⟩
      ·have M2 : (mode == 2) = false := by simpa using m2
       have hg := hgo2
       rw [M2, if_pos (by simp)] at hg
       have HGN := hid hg
       clear hg hgo2 m2
       go_wp2_with fail
       go_roundw
       case rel => exact ⟨k0 + 1, jobS p fuel mode s (jf, ja), _, _, _, by omega, by go_num, by rw [HJS.out]; exact SF.out, HW2.out, HGN⟩
       case measure => simp [intOf]; omega
   ·obtain rfl : k0 = nj := by omega
    have hgo := HG.out
    rw [List.drop_eq_nil_of_le (by rw [LJ.out]; omega), jobsS] at hgo
    have HGO := hid hgo
    have z0 : wr.cell? ⟨w.heap.size + 1, 0, none⟩ = some (.slice Aj k0 cj) := (Q1.out.chg SR.out.chg hb1).cells 0
    clear hgo
    go_wp2_with fail
    go_meet
    exact ⟨_, _, _, HGO.out ▸ SR.out⟩
 case rest =>
  obtain ⟨v1, v2, v3, hS⟩ := hcut
  have zh : wc.cell? ⟨w.heap.size + 1, 1, none⟩ = some (.slice Ah nh ch) := (Q1.out.chg hS.chg hb1).cells 1
  have SNJ := hid hS
  clear hS SNI
  obtain ⟨SF, hsf⟩ : ∃ J, hooksS p fuel mode hs nh JF = J := ⟨_, rfl⟩
  rw [hsf] at HF
  have HSF := hid hsf
  clear hsf
  go_upto_block 2 with fail
  clear zh
  go_cut [] from 11 to 108 (fun wx => ∃ v1 v2 v3, Sn w1 b7 w.heap.size SF v1 v2 v3 wx)
  case first =>
   go_wp2_with fail
   go_loopw [11] (fun i wr => ∃ (kk : Nat) (s : Sen) (v1 v2 v3 : Value), kk ≤ nh ∧ i = .int .i64 ((kk : Int) - 1) ∧ Sn w1 b7 w.heap.size s v1 v2 v3 wr ∧ WfS 12 (nh - kk) s ∧ Hid (hooksS p fuel mode hs kk s = SF)) (fun i _ => (intOf i + 1).toNat)
   case atStart => exact ⟨nh, JF, _, _, _, Nat.le_refl _, rfl, SNJ.out, by rw [Nat.sub_self]; exact HJW.out, HSF⟩
   case round =>
    obtain ⟨kk, s, v1, v2, v3, hk, rfl, hS, hW, HG⟩ := hrel
    obtain ⟨A1, c1, rfl⟩ := own_slice hS.j
    obtain ⟨A2, c2, rfl⟩ := own_slice hS.h
    obtain ⟨A3, c3, rfl⟩ := own_slice hS.y
    have SR := hid hS
    have WS := hid hW
    have HBW := hid (HBWF.out wr hS.chg)
    clear hS hW SNJ
    by_cases hlt : 0 < kk
    ·obtain ⟨k0, rfl⟩ : ∃ k0, kk = k0 + 1 := ⟨kk - 1, by omega⟩
     have ei : (((k0 + 1 : Nat) : Int) - 1) = (k0 : Int) := by omega
     rw [ei]
     have hk0 : k0 < nh := by omega
     obtain ⟨x, hx⟩ : ∃ x, hs[k0]? = some x := ⟨_, List.getElem?_eq_getElem (by rw [LH.out]; omega)⟩
     have HXK := hid hx
     obtain ⟨ad, had, -⟩ := (HRD.out wr HBW.out).hooks k0 _ hx
     subst had
     have hJ := hid (fun (V : World) (b : Below wr.heap.size wr V) => (show V.cell? (ad.add k0) = some (.int .i64 x) from by
      obtain ⟨ad', e, -, h0⟩ := (HRD.out V (HBW.out.trans (b.mono HBW.out.size))).hooks k0 _ HXK.out
      cases e
      exact h0))
     have hgo := HG.out
     rw [hooksS, List.getD_eq_getElem?_getD, hx] at hgo
     have ha := HHA.out _ (List.mem_of_getElem? hx) s.code WS.out.code0 WS.out.code1
     have hkd : 1 ≤ (oneR p fuel mode s x s.code).kind ∧ (oneR p fuel mode s x s.code).kind ≤ 4 := frm_kind ha
     have hvl : N16 (oneR p fuel mode s x s.code).value := by have hf := frm_wf ha (sharedAt_n (mode := mode) WS.out.shared); exact told_value hf.1 hf.2
     have hC0 := fun W (b : Below wr.heap.size wr W) => l10One_any lo n c nj nh cj ch s.jobs.length s.hooks.length s.says.length c1 c2 c3 w.heap.size A Aj (some ad) A1 A2 A3 p fuel mode x s.code s hl hsm hn ha (WS.out.mono (by omega) (by omega)) rfl W (ho.below (HBW.out.trans (b.mono HBW.out.size))) (own_below SR.out.y b (Nat.le_refl _))
     have hjl : (oneS p fuel mode s x s.code).jobs.length ≤ 12 := Nat.le_trans WS.out.jobs (by omega)
     have hhl : (oneS p fuel mode s x s.code).hooks.length ≤ 12 := Nat.le_trans WS.out.hooks (by omega)
     have e1 : (oneS p fuel mode s x s.code).jobs = s.jobs := rfl
     have e2 : (oneS p fuel mode s x s.code).hooks = s.hooks := rfl
     have e3 : (oneS p fuel mode s x s.code).code = s.code := rfl
     have HJ : hookS p fuel mode s x = { oneS p fuel mode s x s.code with hooks := (oneS p fuel mode s x s.code).hooks ++ [(oneR p fuel mode s x s.code).kind], code := if (oneR p fuel mode s x s.code).kind = 1 then (oneS p fuel mode s x s.code).code else max (oneS p fuel mode s x s.code).code (codeO (oneR p fuel mode s x s.code)) } := rfl
     have HW2 := hid ((hook_wf (mode := mode) WS.out ha).mono (Nat.le_refl 12) (show nh - (k0 + 1) + 1 ≤ nh - k0 by omega))
     have HGN := hid (show hooksS p fuel mode hs k0 (hookS p fuel mode s x) = SF from hgo)
     clear hgo hx
     generalize oneS p fuel mode s x s.code = s1 at *
     generalize oneR p fuel mode s x s.code = oc at *
     obtain ⟨k, v, t, sp⟩ := oc
     dsimp only at hkd hvl HJ
     obtain ⟨N, hN⟩ : ∃ N, t.length = N := ⟨_, rfl⟩
     obtain ⟨q, hq⟩ : ∃ q, codeO { kind := k, value := v, trace := t, spent := sp } = q := ⟨_, rfl⟩
     have hco0 := fun A2 c2 W => l10Code_any A2 N c2 t k v sp hkd hvl W
     rw [hq] at hco0 HJ
     have hco := hid hco0
     have hC := hid hC0
     have HN := hid hN
     have hmo0 := fun W => most_any s1.code q W
     rw [mx_max] at hmo0
     generalize hmc : max s1.code q = mc at *
     have hmo := hid hmo0
     have HJS := hid HJ
     have E1 := hid e1
     have E2 := hid e2
     have E3 := hid e3
     clear hC0 hco0 hq hN hmo0 hkd hvl HJ ha hmc e1 e2 e3
     have HO := hid (fun (V : World) (b : Below wr.heap.size wr V) => (show (fun V : World => V.cell? ⟨w.heap.size, 0, none⟩ = some (.slice A n c) ∧ (∀ o, V.cell? ⟨w.heap.size + 1, o, none⟩ = (#[.slice Aj nj cj, .slice (some ad) nh ch, .int .i64 mode] : Array Value)[o]?) ∧ V.cell? (ad.add k0) = some (.int .i64 x) ∧ (∀ o, V.cell? ⟨b7, o, none⟩ = (#[.slice A1 s.jobs.length c1, .slice A2 s.hooks.length c2, .slice A3 s.says.length c3, .int .i64 s.code, .int .i64 s.shared] : Array Value)[o]?)) V from ⟨(Q0.out.chg (SR.out.below b).chg hb0).cells 0, (Q1.out.chg (SR.out.below b).chg hb1).cells, hJ.out V b, (SR.out.below b).blk.cells⟩))
     have b0 : Below wr.heap.size wr wr.drew := (Below.refl _ _).drew
     have S0 := HO.out wr.drew b0
     have hlt9 : ∀ x, wr.heap.size ≤ x → x ≠ b7 := fun x hx e => by have := SR.out.blk.lt; omega
     go_upto_region 13 with fail
     go_cut [12, 13] from 76 to 90 (fun s9 s10 wx => ∃ g9 g10 A7 c7 A4 c4, s9 = .pointer (some ⟨g9, 0, none⟩) ∧ s10 = .pointer (some ⟨g10, 0, none⟩) ∧ Blk wx g9 110 #[.slice A1 s.jobs.length c1, .slice A2 s.hooks.length c2, .slice A7 s1.says.length c7, .int .i64 s1.code, .int .i64 s1.shared] ∧ Blk wx g10 56 #[.int .i64 k, .int .i64 v, .slice A4 N c4, .int .i64 sp] ∧ wx.ownsRow wr.heap.size 3 1 (.slice A7 s1.says.length c7) s1.says.length (cellsI s1.says) ∧ Below wr.heap.size wr wx)
     case first =>
      refine Last2.region_last [18] (fun V : World => V.cell? ⟨w.heap.size, 0, none⟩ = some (.slice A n c) ∧ (∀ o, V.cell? ⟨w.heap.size + 1, o, none⟩ = (#[.slice Aj nj cj, .slice (some ad) nh ch, .int .i64 mode] : Array Value)[o]?) ∧ V.cell? (ad.add k0) = some (.int .i64 x) ∧ (∀ o, V.cell? ⟨b7, o, none⟩ = (#[.slice A1 s.jobs.length c1, .slice A2 s.hooks.length c2, .slice A3 s.says.length c3, .int .i64 s.code, .int .i64 s.shared] : Array Value)[o]?)) (by kernel_rfl) ?_
      generalize wr.drew = W0 at *
      refine tk 0 77 (.agg #[.slice A n c]) S0 ?_
      simp only [Act.put, Last2.s]
      refine tk 1 78 (.agg #[.slice Aj nj cj, .slice (some ad) nh ch, .int .i64 mode]) S0 ?_
      simp only [Act.put, Last2.s]
      refine tk 2 79 (.pointer (some ⟨w.heap.size + 1, 1, none⟩)) S0 ?_
      simp only [Act.put, Last2.s]
      refine tk 3 80 (.slice (some ad) nh ch) S0 ?_
      simp only [Act.put, Last2.s]
      refine tk 4 81 (.int .i64 k0) S0 ?_
      simp only [Act.put, Last2.s]
      refine tk 5 82 (.pointer (some (ad.add k0))) S0 ?_
      simp only [Act.put, Last2.s]
      refine tk 6 83 (.int .i64 x) S0 ?_
      simp only [Act.put, Last2.s]
      refine tk 7 84 (.pointer (some ⟨b7, 3, none⟩)) S0 ?_
      simp only [Act.put, Last2.s]
      refine tk 8 85 (.int .i64 s.code) S0 ?_
      simp only [Act.put, Last2.s]
      refine tk 9 86 (.int .i64 fuel) S0 ?_
      simp only [Act.put, Last2.s]
      refine tk 10 87 (.agg #[.slice A1 s.jobs.length c1, .slice A2 s.hooks.length c2, .slice A3 s.says.length c3, .int .i64 s.code, .int .i64 s.shared]) S0 ?_
      simp only [Act.put, Last2.s]
      refine Last2.last_three (i := 11) (j := 15) (k := 16) (oi := { dst := some 88, op := .call { callee := .value (.func 114), args := #[.tmp 77, .tmp 78, .tmp 83, .tmp 85, .tmp 86, .tmp 87], argTypes := #[35, 39, 3, 3, 3, 110] }, type := _, pos := _, after := _, guard := _ }) (oj := { dst := some 12, op := .alloc 110, type := _, pos := _, after := _, guard := none }) (ok := { dst := some 13, op := .alloc 56, type := _, pos := _, after := _, guard := none }) (by kernel_rfl) rfl rfl rfl rfl rfl rfl (fun K hK => ?_) (fun K hK => ?_) (fun K hK => ?_)
      ·go_simp
       refine (hC.out W0 b0).mono ?_
       rintro e W1 ⟨A7, c7, A4, c4, rfl, oy, bq⟩
       unfold outval
       dsimp only
       rw [HN.out]
       have b1 : Below wr.heap.size wr W1 := b0.trans (bq.mono b0.size)
       replace oy : W1.ownsRow wr.heap.size 3 1 (.slice A7 s1.says.length c7) s1.says.length (cellsI s1.says) := own_mono oy b0.size
       have S1 := HO.out W1 b1
       refine hK.out _ _ (fun _ => S1) ?_
       clear hK K
       try simp only [Act.put, Last2.s]
       clear bq b0
       refine Last2.last_take (i := 12) (d := some 76) (v := .tuple #[.agg #[.slice A1 s.jobs.length c1, .slice A2 s.hooks.length c2, .slice A7 s1.says.length c7, .int .i64 s1.code, .int .i64 s1.shared], .agg #[.int .i64 k, .int .i64 v, .slice A4 N c4, .int .i64 sp]]) rfl rfl (by kernel_rfl) (by kernel_rfl) (by kernel_rfl) (fun _ _ _ h => h) rfl (by kernel_rfl) (by kernel_rfl) rfl ?_ S1 ?_
       ·(intro V hV; (try dsimp only at hV); go_simp; try with_reducible rfl)
       simp only [Act.put, Last2.s]
       refine Last2.last_take (i := 13) (d := some 89) (v := .agg #[.slice A1 s.jobs.length c1, .slice A2 s.hooks.length c2, .slice A7 s1.says.length c7, .int .i64 s1.code, .int .i64 s1.shared]) rfl rfl (by kernel_rfl) (by kernel_rfl) (by kernel_rfl) (fun _ _ _ h => h) rfl (by kernel_rfl) (by kernel_rfl) rfl ?_ S1 ?_
       ·(intro V hV; (try dsimp only at hV); go_simp; try with_reducible rfl)
       simp only [Act.put, Last2.s]
       refine Last2.last_take (i := 14) (d := some 90) (v := .agg #[.int .i64 k, .int .i64 v, .slice A4 N c4, .int .i64 sp]) rfl rfl (by kernel_rfl) (by kernel_rfl) (by kernel_rfl) (fun _ _ _ h => h) rfl (by kernel_rfl) (by kernel_rfl) rfl ?_ S1 ?_
       ·(intro V hV; (try dsimp only at hV); go_simp; try with_reducible rfl)
       simp only [Act.put, Last2.s]
       refine Last2.last_two (i := 15) (j := 16) (oi := { dst := some 12, op := .alloc 110, type := _, pos := _, after := _, guard := none }) (oj := { dst := some 13, op := .alloc 56, type := _, pos := _, after := _, guard := none }) (by kernel_rfl) rfl rfl rfl rfl (fun K hK => ?_) (fun K hK => ?_)
       ·go_simp
        have x9 : Blk (W1.alloc (.cells #[.slice none 0 0, .slice none 0 0, .slice none 0 0, .int .i64 0, .int .i64 0] 110)) W1.heap.size 110 #[.slice none 0 0, .slice none 0 0, .slice none 0 0, .int .i64 0, .int .i64 0] := heap1_0 W1 _
        have b2 : Below wr.heap.size wr (W1.alloc (.cells #[.slice none 0 0, .slice none 0 0, .slice none 0 0, .int .i64 0, .int .i64 0] 110)) := b1.alloc b1.size _
        have lg9 : wr.heap.size ≤ W1.heap.size := b1.size
        replace oy := World.ownsRow.alloc oy (.cells #[.slice none 0 0, .slice none 0 0, .slice none 0 0, .int .i64 0, .int .i64 0] 110)
        have S2 := HO.out _ b2
        refine hK.out _ _ (fun _ => S2) ?_
        clear hK K
        try simp only [Act.put, Last2.s]
        clear b1
        generalize W1.alloc (.cells #[.slice none 0 0, .slice none 0 0, .slice none 0 0, .int .i64 0, .int .i64 0] 110) = W2 at *
        generalize W1.heap.size = g9 at *
        refine Last2.last_one (i := 16) (o := { dst := some 13, op := .alloc 56, type := _, pos := _, after := _, guard := none }) (by kernel_rfl) rfl rfl (fun K hK => ?_)
        go_simp
        have x10 : Blk (W2.alloc (.cells #[.int .i64 0, .int .i64 0, .slice none 0 0, .int .i64 0] 56)) W2.heap.size 56 #[.int .i64 0, .int .i64 0, .slice none 0 0, .int .i64 0] := heap1_0 W2 _
        have b3 : Below wr.heap.size wr (W2.alloc (.cells #[.int .i64 0, .int .i64 0, .slice none 0 0, .int .i64 0] 56)) := b2.alloc b2.size _
        have lg10 : wr.heap.size ≤ W2.heap.size := b2.size
        replace oy := World.ownsRow.alloc oy (.cells #[.int .i64 0, .int .i64 0, .slice none 0 0, .int .i64 0] 56)
        replace x9 := x9.alloc (.cells #[.int .i64 0, .int .i64 0, .slice none 0 0, .int .i64 0] 56)
        have S3 := HO.out _ b3
        refine hK.out _ _ (fun _ => S3) ?_
        clear hK K
        try simp only [Act.put, Last2.s]
        clear b2
        generalize W2.alloc (.cells #[.int .i64 0, .int .i64 0, .slice none 0 0, .int .i64 0] 56) = W3 at *
        generalize W2.heap.size = g10 at *
        have hne := ne_blkF x9 x10 (by decide)
        have z9 := x9.cells
        have f9 := x9.frozen
        refine Last2.last_one (i := 17) (o := { dst := none, op := .store 110 (.tmp 12) (.tmp 89), type := _, pos := _, after := _, guard := none }) (by kernel_rfl) rfl rfl (fun K hK => ?_)
        go_simp
        have y9 := set5 x9 (.slice A1 s.jobs.length c1) (.slice A2 s.hooks.length c2) (.slice A7 s1.says.length c7) (.int .i64 s1.code) (.int .i64 s1.shared)
        have y10 := far5 x10 hne.symm (.slice A1 s.jobs.length c1) (.slice A2 s.hooks.length c2) (.slice A7 s1.says.length c7) (.int .i64 s1.code) (.int .i64 s1.shared)
        have yo := own5 oy (blk_apart oy x9 (by decide)) (.slice A1 s.jobs.length c1) (.slice A2 s.hooks.length c2) (.slice A7 s1.says.length c7) (.int .i64 s1.code) (.int .i64 s1.shared)
        have yb := bel5 b3 lg9 (.slice A1 s.jobs.length c1) (.slice A2 s.hooks.length c2) (.slice A7 s1.says.length c7) (.int .i64 s1.code) (.int .i64 s1.shared)
        have SX := HO.out _ yb
        refine hK.out _ _ (fun _ => SX) ?_
        clear hK K
        try simp only [Act.put, Last2.s]
        clear z9 f9 x9 x10 oy b3
        have z10 := y10.cells
        have f10 := y10.frozen
        refine Last2.last_one (i := 18) (o := { dst := none, op := .store 56 (.tmp 13) (.tmp 90), type := _, pos := _, after := _, guard := none }) (by kernel_rfl) rfl rfl (fun K hK => ?_)
        go_simp
        refine hK.out _ _ (fun h => (h (by decide)).elim) ?_
        clear hK K
        try simp only [Act.put, Last2.s]
        refine Last2.last_done (by kernel_rfl) ?_ _
        (try go_wp2_with fail)
        go_meet
        exact ⟨g9, g10, A7, c7, A4, c4, rfl, rfl, far4 y9 hne (.int .i64 k) (.int .i64 v) (.slice A4 N c4) (.int .i64 sp), Blk.set4 y10 _ _ _ _, own4 yo (blk_apart yo y10 (by decide)) (.int .i64 k) (.int .i64 v) (.slice A4 N c4) (.int .i64 sp), bel4 yb lg10 (.int .i64 k) (.int .i64 v) (.slice A4 N c4) (.int .i64 sp)⟩
       ·go_simp
        have x10 : Blk (W1.alloc (.cells #[.int .i64 0, .int .i64 0, .slice none 0 0, .int .i64 0] 56)) W1.heap.size 56 #[.int .i64 0, .int .i64 0, .slice none 0 0, .int .i64 0] := heap1_0 W1 _
        have b2 : Below wr.heap.size wr (W1.alloc (.cells #[.int .i64 0, .int .i64 0, .slice none 0 0, .int .i64 0] 56)) := b1.alloc b1.size _
        have lg10 : wr.heap.size ≤ W1.heap.size := b1.size
        replace oy := World.ownsRow.alloc oy (.cells #[.int .i64 0, .int .i64 0, .slice none 0 0, .int .i64 0] 56)
        have S2 := HO.out _ b2
        refine hK.out _ _ (fun _ => S2) ?_
        clear hK K
        try simp only [Act.put, Last2.s]
        clear b1
        generalize W1.alloc (.cells #[.int .i64 0, .int .i64 0, .slice none 0 0, .int .i64 0] 56) = W2 at *
        generalize W1.heap.size = g10 at *
        refine Last2.last_one (i := 15) (o := { dst := some 12, op := .alloc 110, type := _, pos := _, after := _, guard := none }) (by kernel_rfl) rfl rfl (fun K hK => ?_)
        go_simp
        have x9 : Blk (W2.alloc (.cells #[.slice none 0 0, .slice none 0 0, .slice none 0 0, .int .i64 0, .int .i64 0] 110)) W2.heap.size 110 #[.slice none 0 0, .slice none 0 0, .slice none 0 0, .int .i64 0, .int .i64 0] := heap1_0 W2 _
        have b3 : Below wr.heap.size wr (W2.alloc (.cells #[.slice none 0 0, .slice none 0 0, .slice none 0 0, .int .i64 0, .int .i64 0] 110)) := b2.alloc b2.size _
        have lg9 : wr.heap.size ≤ W2.heap.size := b2.size
        replace oy := World.ownsRow.alloc oy (.cells #[.slice none 0 0, .slice none 0 0, .slice none 0 0, .int .i64 0, .int .i64 0] 110)
        replace x10 := x10.alloc (.cells #[.slice none 0 0, .slice none 0 0, .slice none 0 0, .int .i64 0, .int .i64 0] 110)
        have S3 := HO.out _ b3
        refine hK.out _ _ (fun _ => S3) ?_
        clear hK K
        try simp only [Act.put, Last2.s]
        clear b2
        generalize W2.alloc (.cells #[.slice none 0 0, .slice none 0 0, .slice none 0 0, .int .i64 0, .int .i64 0] 110) = W3 at *
        generalize W2.heap.size = g9 at *
        have hne := ne_blkF x9 x10 (by decide)
        have z9 := x9.cells
        have f9 := x9.frozen
        refine Last2.last_one (i := 17) (o := { dst := none, op := .store 110 (.tmp 12) (.tmp 89), type := _, pos := _, after := _, guard := none }) (by kernel_rfl) rfl rfl (fun K hK => ?_)
        go_simp
        have y9 := set5 x9 (.slice A1 s.jobs.length c1) (.slice A2 s.hooks.length c2) (.slice A7 s1.says.length c7) (.int .i64 s1.code) (.int .i64 s1.shared)
        have y10 := far5 x10 hne.symm (.slice A1 s.jobs.length c1) (.slice A2 s.hooks.length c2) (.slice A7 s1.says.length c7) (.int .i64 s1.code) (.int .i64 s1.shared)
        have yo := own5 oy (blk_apart oy x9 (by decide)) (.slice A1 s.jobs.length c1) (.slice A2 s.hooks.length c2) (.slice A7 s1.says.length c7) (.int .i64 s1.code) (.int .i64 s1.shared)
        have yb := bel5 b3 lg9 (.slice A1 s.jobs.length c1) (.slice A2 s.hooks.length c2) (.slice A7 s1.says.length c7) (.int .i64 s1.code) (.int .i64 s1.shared)
        have SX := HO.out _ yb
        refine hK.out _ _ (fun _ => SX) ?_
        clear hK K
        try simp only [Act.put, Last2.s]
        clear z9 f9 x9 x10 oy b3
        have z10 := y10.cells
        have f10 := y10.frozen
        refine Last2.last_one (i := 18) (o := { dst := none, op := .store 56 (.tmp 13) (.tmp 90), type := _, pos := _, after := _, guard := none }) (by kernel_rfl) rfl rfl (fun K hK => ?_)
        go_simp
        refine hK.out _ _ (fun h => (h (by decide)).elim) ?_
        clear hK K
        try simp only [Act.put, Last2.s]
        refine Last2.last_done (by kernel_rfl) ?_ _
        (try go_wp2_with fail)
        go_meet
        exact ⟨g9, g10, A7, c7, A4, c4, rfl, rfl, far4 y9 hne (.int .i64 k) (.int .i64 v) (.slice A4 N c4) (.int .i64 sp), Blk.set4 y10 _ _ _ _, own4 yo (blk_apart yo y10 (by decide)) (.int .i64 k) (.int .i64 v) (.slice A4 N c4) (.int .i64 sp), bel4 yb lg10 (.int .i64 k) (.int .i64 v) (.slice A4 N c4) (.int .i64 sp)⟩
      ·go_simp
       have x9 : Blk (W0.alloc (.cells #[.slice none 0 0, .slice none 0 0, .slice none 0 0, .int .i64 0, .int .i64 0] 110)) W0.heap.size 110 #[.slice none 0 0, .slice none 0 0, .slice none 0 0, .int .i64 0, .int .i64 0] := heap1_0 W0 _
       have b1 : Below wr.heap.size wr (W0.alloc (.cells #[.slice none 0 0, .slice none 0 0, .slice none 0 0, .int .i64 0, .int .i64 0] 110)) := b0.alloc b0.size _
       have lg9 : wr.heap.size ≤ W0.heap.size := b0.size
       have S1 := HO.out _ b1
       refine hK.out _ _ (fun _ => S1) ?_
       clear hK K
       try simp only [Act.put, Last2.s]
       clear b0
       generalize W0.alloc (.cells #[.slice none 0 0, .slice none 0 0, .slice none 0 0, .int .i64 0, .int .i64 0] 110) = W1 at *
       generalize W0.heap.size = g9 at *
       refine Last2.last_two (i := 11) (j := 16) (oi := { dst := some 88, op := .call { callee := .value (.func 114), args := #[.tmp 77, .tmp 78, .tmp 83, .tmp 85, .tmp 86, .tmp 87], argTypes := #[35, 39, 3, 3, 3, 110] }, type := _, pos := _, after := _, guard := _ }) (oj := { dst := some 13, op := .alloc 56, type := _, pos := _, after := _, guard := none }) (by kernel_rfl) rfl rfl rfl rfl (fun K hK => ?_) (fun K hK => ?_)
       ·go_simp
        refine (hC.out W1 b1).mono ?_
        rintro e W2 ⟨A7, c7, A4, c4, rfl, oy, bq⟩
        unfold outval
        dsimp only
        rw [HN.out]
        have b2 : Below wr.heap.size wr W2 := b1.trans (bq.mono b1.size)
        replace x9 := x9.below bq x9.lt
        replace oy : W2.ownsRow wr.heap.size 3 1 (.slice A7 s1.says.length c7) s1.says.length (cellsI s1.says) := own_mono oy b1.size
        have S2 := HO.out W2 b2
        refine hK.out _ _ (fun _ => S2) ?_
        clear hK K
        try simp only [Act.put, Last2.s]
        clear bq b1
        refine Last2.last_take (i := 12) (d := some 76) (v := .tuple #[.agg #[.slice A1 s.jobs.length c1, .slice A2 s.hooks.length c2, .slice A7 s1.says.length c7, .int .i64 s1.code, .int .i64 s1.shared], .agg #[.int .i64 k, .int .i64 v, .slice A4 N c4, .int .i64 sp]]) rfl rfl (by kernel_rfl) (by kernel_rfl) (by kernel_rfl) (fun _ _ _ h => h) rfl (by kernel_rfl) (by kernel_rfl) rfl ?_ S2 ?_
        ·(intro V hV; (try dsimp only at hV); go_simp; try with_reducible rfl)
        simp only [Act.put, Last2.s]
        refine Last2.last_take (i := 13) (d := some 89) (v := .agg #[.slice A1 s.jobs.length c1, .slice A2 s.hooks.length c2, .slice A7 s1.says.length c7, .int .i64 s1.code, .int .i64 s1.shared]) rfl rfl (by kernel_rfl) (by kernel_rfl) (by kernel_rfl) (fun _ _ _ h => h) rfl (by kernel_rfl) (by kernel_rfl) rfl ?_ S2 ?_
        ·(intro V hV; (try dsimp only at hV); go_simp; try with_reducible rfl)
        simp only [Act.put, Last2.s]
        refine Last2.last_take (i := 14) (d := some 90) (v := .agg #[.int .i64 k, .int .i64 v, .slice A4 N c4, .int .i64 sp]) rfl rfl (by kernel_rfl) (by kernel_rfl) (by kernel_rfl) (fun _ _ _ h => h) rfl (by kernel_rfl) (by kernel_rfl) rfl ?_ S2 ?_
        ·(intro V hV; (try dsimp only at hV); go_simp; try with_reducible rfl)
        simp only [Act.put, Last2.s]
        refine Last2.last_one (i := 16) (o := { dst := some 13, op := .alloc 56, type := _, pos := _, after := _, guard := none }) (by kernel_rfl) rfl rfl (fun K hK => ?_)
        go_simp
        have x10 : Blk (W2.alloc (.cells #[.int .i64 0, .int .i64 0, .slice none 0 0, .int .i64 0] 56)) W2.heap.size 56 #[.int .i64 0, .int .i64 0, .slice none 0 0, .int .i64 0] := heap1_0 W2 _
        have b3 : Below wr.heap.size wr (W2.alloc (.cells #[.int .i64 0, .int .i64 0, .slice none 0 0, .int .i64 0] 56)) := b2.alloc b2.size _
        have lg10 : wr.heap.size ≤ W2.heap.size := b2.size
        replace x9 := x9.alloc (.cells #[.int .i64 0, .int .i64 0, .slice none 0 0, .int .i64 0] 56)
        replace oy := World.ownsRow.alloc oy (.cells #[.int .i64 0, .int .i64 0, .slice none 0 0, .int .i64 0] 56)
        have S3 := HO.out _ b3
        refine hK.out _ _ (fun _ => S3) ?_
        clear hK K
        try simp only [Act.put, Last2.s]
        clear b2
        generalize W2.alloc (.cells #[.int .i64 0, .int .i64 0, .slice none 0 0, .int .i64 0] 56) = W3 at *
        generalize W2.heap.size = g10 at *
        have hne := ne_blkF x9 x10 (by decide)
        have z9 := x9.cells
        have f9 := x9.frozen
        refine Last2.last_one (i := 17) (o := { dst := none, op := .store 110 (.tmp 12) (.tmp 89), type := _, pos := _, after := _, guard := none }) (by kernel_rfl) rfl rfl (fun K hK => ?_)
        go_simp
        have y9 := set5 x9 (.slice A1 s.jobs.length c1) (.slice A2 s.hooks.length c2) (.slice A7 s1.says.length c7) (.int .i64 s1.code) (.int .i64 s1.shared)
        have y10 := far5 x10 hne.symm (.slice A1 s.jobs.length c1) (.slice A2 s.hooks.length c2) (.slice A7 s1.says.length c7) (.int .i64 s1.code) (.int .i64 s1.shared)
        have yo := own5 oy (blk_apart oy x9 (by decide)) (.slice A1 s.jobs.length c1) (.slice A2 s.hooks.length c2) (.slice A7 s1.says.length c7) (.int .i64 s1.code) (.int .i64 s1.shared)
        have yb := bel5 b3 lg9 (.slice A1 s.jobs.length c1) (.slice A2 s.hooks.length c2) (.slice A7 s1.says.length c7) (.int .i64 s1.code) (.int .i64 s1.shared)
        have SX := HO.out _ yb
        refine hK.out _ _ (fun _ => SX) ?_
        clear hK K
        try simp only [Act.put, Last2.s]
        clear z9 f9 x9 x10 oy b3
        have z10 := y10.cells
        have f10 := y10.frozen
        refine Last2.last_one (i := 18) (o := { dst := none, op := .store 56 (.tmp 13) (.tmp 90), type := _, pos := _, after := _, guard := none }) (by kernel_rfl) rfl rfl (fun K hK => ?_)
        go_simp
        refine hK.out _ _ (fun h => (h (by decide)).elim) ?_
        clear hK K
        try simp only [Act.put, Last2.s]
        refine Last2.last_done (by kernel_rfl) ?_ _
        (try go_wp2_with fail)
        go_meet
        exact ⟨g9, g10, A7, c7, A4, c4, rfl, rfl, far4 y9 hne (.int .i64 k) (.int .i64 v) (.slice A4 N c4) (.int .i64 sp), Blk.set4 y10 _ _ _ _, own4 yo (blk_apart yo y10 (by decide)) (.int .i64 k) (.int .i64 v) (.slice A4 N c4) (.int .i64 sp), bel4 yb lg10 (.int .i64 k) (.int .i64 v) (.slice A4 N c4) (.int .i64 sp)⟩
       ·go_simp
        have x10 : Blk (W1.alloc (.cells #[.int .i64 0, .int .i64 0, .slice none 0 0, .int .i64 0] 56)) W1.heap.size 56 #[.int .i64 0, .int .i64 0, .slice none 0 0, .int .i64 0] := heap1_0 W1 _
        have b2 : Below wr.heap.size wr (W1.alloc (.cells #[.int .i64 0, .int .i64 0, .slice none 0 0, .int .i64 0] 56)) := b1.alloc b1.size _
        have lg10 : wr.heap.size ≤ W1.heap.size := b1.size
        replace x9 := x9.alloc (.cells #[.int .i64 0, .int .i64 0, .slice none 0 0, .int .i64 0] 56)
        have S2 := HO.out _ b2
        refine hK.out _ _ (fun _ => S2) ?_
        clear hK K
        try simp only [Act.put, Last2.s]
        clear b1
        generalize W1.alloc (.cells #[.int .i64 0, .int .i64 0, .slice none 0 0, .int .i64 0] 56) = W2 at *
        generalize W1.heap.size = g10 at *
        refine Last2.last_one (i := 11) (o := { dst := some 88, op := .call { callee := .value (.func 114), args := #[.tmp 77, .tmp 78, .tmp 83, .tmp 85, .tmp 86, .tmp 87], argTypes := #[35, 39, 3, 3, 3, 110] }, type := _, pos := _, after := _, guard := _ }) (by kernel_rfl) rfl rfl (fun K hK => ?_)
        go_simp
        refine (hC.out W2 b2).mono ?_
        rintro e W3 ⟨A7, c7, A4, c4, rfl, oy, bq⟩
        unfold outval
        dsimp only
        rw [HN.out]
        have b3 : Below wr.heap.size wr W3 := b2.trans (bq.mono b2.size)
        replace x9 := x9.below bq x9.lt
        replace x10 := x10.below bq x10.lt
        replace oy : W3.ownsRow wr.heap.size 3 1 (.slice A7 s1.says.length c7) s1.says.length (cellsI s1.says) := own_mono oy b2.size
        have S3 := HO.out W3 b3
        refine hK.out _ _ (fun _ => S3) ?_
        clear hK K
        try simp only [Act.put, Last2.s]
        clear bq b2
        refine Last2.last_take (i := 12) (d := some 76) (v := .tuple #[.agg #[.slice A1 s.jobs.length c1, .slice A2 s.hooks.length c2, .slice A7 s1.says.length c7, .int .i64 s1.code, .int .i64 s1.shared], .agg #[.int .i64 k, .int .i64 v, .slice A4 N c4, .int .i64 sp]]) rfl rfl (by kernel_rfl) (by kernel_rfl) (by kernel_rfl) (fun _ _ _ h => h) rfl (by kernel_rfl) (by kernel_rfl) rfl ?_ S3 ?_
        ·(intro V hV; (try dsimp only at hV); go_simp; try with_reducible rfl)
        simp only [Act.put, Last2.s]
        refine Last2.last_take (i := 13) (d := some 89) (v := .agg #[.slice A1 s.jobs.length c1, .slice A2 s.hooks.length c2, .slice A7 s1.says.length c7, .int .i64 s1.code, .int .i64 s1.shared]) rfl rfl (by kernel_rfl) (by kernel_rfl) (by kernel_rfl) (fun _ _ _ h => h) rfl (by kernel_rfl) (by kernel_rfl) rfl ?_ S3 ?_
        ·(intro V hV; (try dsimp only at hV); go_simp; try with_reducible rfl)
        simp only [Act.put, Last2.s]
        refine Last2.last_take (i := 14) (d := some 90) (v := .agg #[.int .i64 k, .int .i64 v, .slice A4 N c4, .int .i64 sp]) rfl rfl (by kernel_rfl) (by kernel_rfl) (by kernel_rfl) (fun _ _ _ h => h) rfl (by kernel_rfl) (by kernel_rfl) rfl ?_ S3 ?_
        ·(intro V hV; (try dsimp only at hV); go_simp; try with_reducible rfl)
        simp only [Act.put, Last2.s]
        have hne := ne_blkF x9 x10 (by decide)
        have z9 := x9.cells
        have f9 := x9.frozen
        refine Last2.last_one (i := 17) (o := { dst := none, op := .store 110 (.tmp 12) (.tmp 89), type := _, pos := _, after := _, guard := none }) (by kernel_rfl) rfl rfl (fun K hK => ?_)
        go_simp
        have y9 := set5 x9 (.slice A1 s.jobs.length c1) (.slice A2 s.hooks.length c2) (.slice A7 s1.says.length c7) (.int .i64 s1.code) (.int .i64 s1.shared)
        have y10 := far5 x10 hne.symm (.slice A1 s.jobs.length c1) (.slice A2 s.hooks.length c2) (.slice A7 s1.says.length c7) (.int .i64 s1.code) (.int .i64 s1.shared)
        have yo := own5 oy (blk_apart oy x9 (by decide)) (.slice A1 s.jobs.length c1) (.slice A2 s.hooks.length c2) (.slice A7 s1.says.length c7) (.int .i64 s1.code) (.int .i64 s1.shared)
        have yb := bel5 b3 lg9 (.slice A1 s.jobs.length c1) (.slice A2 s.hooks.length c2) (.slice A7 s1.says.length c7) (.int .i64 s1.code) (.int .i64 s1.shared)
        have SX := HO.out _ yb
        refine hK.out _ _ (fun _ => SX) ?_
        clear hK K
        try simp only [Act.put, Last2.s]
        clear z9 f9 x9 x10 oy b3
        have z10 := y10.cells
        have f10 := y10.frozen
        refine Last2.last_one (i := 18) (o := { dst := none, op := .store 56 (.tmp 13) (.tmp 90), type := _, pos := _, after := _, guard := none }) (by kernel_rfl) rfl rfl (fun K hK => ?_)
        go_simp
        refine hK.out _ _ (fun h => (h (by decide)).elim) ?_
        clear hK K
        try simp only [Act.put, Last2.s]
        refine Last2.last_done (by kernel_rfl) ?_ _
        (try go_wp2_with fail)
        go_meet
        exact ⟨g9, g10, A7, c7, A4, c4, rfl, rfl, far4 y9 hne (.int .i64 k) (.int .i64 v) (.slice A4 N c4) (.int .i64 sp), Blk.set4 y10 _ _ _ _, own4 yo (blk_apart yo y10 (by decide)) (.int .i64 k) (.int .i64 v) (.slice A4 N c4) (.int .i64 sp), bel4 yb lg10 (.int .i64 k) (.int .i64 v) (.slice A4 N c4) (.int .i64 sp)⟩
      ·go_simp
       have x10 : Blk (W0.alloc (.cells #[.int .i64 0, .int .i64 0, .slice none 0 0, .int .i64 0] 56)) W0.heap.size 56 #[.int .i64 0, .int .i64 0, .slice none 0 0, .int .i64 0] := heap1_0 W0 _
       have b1 : Below wr.heap.size wr (W0.alloc (.cells #[.int .i64 0, .int .i64 0, .slice none 0 0, .int .i64 0] 56)) := b0.alloc b0.size _
       have lg10 : wr.heap.size ≤ W0.heap.size := b0.size
       have S1 := HO.out _ b1
       refine hK.out _ _ (fun _ => S1) ?_
       clear hK K
       try simp only [Act.put, Last2.s]
       clear b0
       generalize W0.alloc (.cells #[.int .i64 0, .int .i64 0, .slice none 0 0, .int .i64 0] 56) = W1 at *
       generalize W0.heap.size = g10 at *
       refine Last2.last_two (i := 11) (j := 15) (oi := { dst := some 88, op := .call { callee := .value (.func 114), args := #[.tmp 77, .tmp 78, .tmp 83, .tmp 85, .tmp 86, .tmp 87], argTypes := #[35, 39, 3, 3, 3, 110] }, type := _, pos := _, after := _, guard := _ }) (oj := { dst := some 12, op := .alloc 110, type := _, pos := _, after := _, guard := none }) (by kernel_rfl) rfl rfl rfl rfl (fun K hK => ?_) (fun K hK => ?_)
       ·go_simp
        refine (hC.out W1 b1).mono ?_
        rintro e W2 ⟨A7, c7, A4, c4, rfl, oy, bq⟩
        unfold outval
        dsimp only
        rw [HN.out]
        have b2 : Below wr.heap.size wr W2 := b1.trans (bq.mono b1.size)
        replace x10 := x10.below bq x10.lt
        replace oy : W2.ownsRow wr.heap.size 3 1 (.slice A7 s1.says.length c7) s1.says.length (cellsI s1.says) := own_mono oy b1.size
        have S2 := HO.out W2 b2
        refine hK.out _ _ (fun _ => S2) ?_
        clear hK K
        try simp only [Act.put, Last2.s]
        clear bq b1
        refine Last2.last_take (i := 12) (d := some 76) (v := .tuple #[.agg #[.slice A1 s.jobs.length c1, .slice A2 s.hooks.length c2, .slice A7 s1.says.length c7, .int .i64 s1.code, .int .i64 s1.shared], .agg #[.int .i64 k, .int .i64 v, .slice A4 N c4, .int .i64 sp]]) rfl rfl (by kernel_rfl) (by kernel_rfl) (by kernel_rfl) (fun _ _ _ h => h) rfl (by kernel_rfl) (by kernel_rfl) rfl ?_ S2 ?_
        ·(intro V hV; (try dsimp only at hV); go_simp; try with_reducible rfl)
        simp only [Act.put, Last2.s]
        refine Last2.last_take (i := 13) (d := some 89) (v := .agg #[.slice A1 s.jobs.length c1, .slice A2 s.hooks.length c2, .slice A7 s1.says.length c7, .int .i64 s1.code, .int .i64 s1.shared]) rfl rfl (by kernel_rfl) (by kernel_rfl) (by kernel_rfl) (fun _ _ _ h => h) rfl (by kernel_rfl) (by kernel_rfl) rfl ?_ S2 ?_
        ·(intro V hV; (try dsimp only at hV); go_simp; try with_reducible rfl)
        simp only [Act.put, Last2.s]
        refine Last2.last_take (i := 14) (d := some 90) (v := .agg #[.int .i64 k, .int .i64 v, .slice A4 N c4, .int .i64 sp]) rfl rfl (by kernel_rfl) (by kernel_rfl) (by kernel_rfl) (fun _ _ _ h => h) rfl (by kernel_rfl) (by kernel_rfl) rfl ?_ S2 ?_
        ·(intro V hV; (try dsimp only at hV); go_simp; try with_reducible rfl)
        simp only [Act.put, Last2.s]
        refine Last2.last_one (i := 15) (o := { dst := some 12, op := .alloc 110, type := _, pos := _, after := _, guard := none }) (by kernel_rfl) rfl rfl (fun K hK => ?_)
        go_simp
        have x9 : Blk (W2.alloc (.cells #[.slice none 0 0, .slice none 0 0, .slice none 0 0, .int .i64 0, .int .i64 0] 110)) W2.heap.size 110 #[.slice none 0 0, .slice none 0 0, .slice none 0 0, .int .i64 0, .int .i64 0] := heap1_0 W2 _
        have b3 : Below wr.heap.size wr (W2.alloc (.cells #[.slice none 0 0, .slice none 0 0, .slice none 0 0, .int .i64 0, .int .i64 0] 110)) := b2.alloc b2.size _
        have lg9 : wr.heap.size ≤ W2.heap.size := b2.size
        replace x10 := x10.alloc (.cells #[.slice none 0 0, .slice none 0 0, .slice none 0 0, .int .i64 0, .int .i64 0] 110)
        replace oy := World.ownsRow.alloc oy (.cells #[.slice none 0 0, .slice none 0 0, .slice none 0 0, .int .i64 0, .int .i64 0] 110)
        have S3 := HO.out _ b3
        refine hK.out _ _ (fun _ => S3) ?_
        clear hK K
        try simp only [Act.put, Last2.s]
        clear b2
        generalize W2.alloc (.cells #[.slice none 0 0, .slice none 0 0, .slice none 0 0, .int .i64 0, .int .i64 0] 110) = W3 at *
        generalize W2.heap.size = g9 at *
        have hne := ne_blkF x9 x10 (by decide)
        have z9 := x9.cells
        have f9 := x9.frozen
        refine Last2.last_one (i := 17) (o := { dst := none, op := .store 110 (.tmp 12) (.tmp 89), type := _, pos := _, after := _, guard := none }) (by kernel_rfl) rfl rfl (fun K hK => ?_)
        go_simp
        have y9 := set5 x9 (.slice A1 s.jobs.length c1) (.slice A2 s.hooks.length c2) (.slice A7 s1.says.length c7) (.int .i64 s1.code) (.int .i64 s1.shared)
        have y10 := far5 x10 hne.symm (.slice A1 s.jobs.length c1) (.slice A2 s.hooks.length c2) (.slice A7 s1.says.length c7) (.int .i64 s1.code) (.int .i64 s1.shared)
        have yo := own5 oy (blk_apart oy x9 (by decide)) (.slice A1 s.jobs.length c1) (.slice A2 s.hooks.length c2) (.slice A7 s1.says.length c7) (.int .i64 s1.code) (.int .i64 s1.shared)
        have yb := bel5 b3 lg9 (.slice A1 s.jobs.length c1) (.slice A2 s.hooks.length c2) (.slice A7 s1.says.length c7) (.int .i64 s1.code) (.int .i64 s1.shared)
        have SX := HO.out _ yb
        refine hK.out _ _ (fun _ => SX) ?_
        clear hK K
        try simp only [Act.put, Last2.s]
        clear z9 f9 x9 x10 oy b3
        have z10 := y10.cells
        have f10 := y10.frozen
        refine Last2.last_one (i := 18) (o := { dst := none, op := .store 56 (.tmp 13) (.tmp 90), type := _, pos := _, after := _, guard := none }) (by kernel_rfl) rfl rfl (fun K hK => ?_)
        go_simp
        refine hK.out _ _ (fun h => (h (by decide)).elim) ?_
        clear hK K
        try simp only [Act.put, Last2.s]
        refine Last2.last_done (by kernel_rfl) ?_ _
        (try go_wp2_with fail)
        go_meet
        exact ⟨g9, g10, A7, c7, A4, c4, rfl, rfl, far4 y9 hne (.int .i64 k) (.int .i64 v) (.slice A4 N c4) (.int .i64 sp), Blk.set4 y10 _ _ _ _, own4 yo (blk_apart yo y10 (by decide)) (.int .i64 k) (.int .i64 v) (.slice A4 N c4) (.int .i64 sp), bel4 yb lg10 (.int .i64 k) (.int .i64 v) (.slice A4 N c4) (.int .i64 sp)⟩
       ·go_simp
        have x9 : Blk (W1.alloc (.cells #[.slice none 0 0, .slice none 0 0, .slice none 0 0, .int .i64 0, .int .i64 0] 110)) W1.heap.size 110 #[.slice none 0 0, .slice none 0 0, .slice none 0 0, .int .i64 0, .int .i64 0] := heap1_0 W1 _
        have b2 : Below wr.heap.size wr (W1.alloc (.cells #[.slice none 0 0, .slice none 0 0, .slice none 0 0, .int .i64 0, .int .i64 0] 110)) := b1.alloc b1.size _
        have lg9 : wr.heap.size ≤ W1.heap.size := b1.size
        replace x10 := x10.alloc (.cells #[.slice none 0 0, .slice none 0 0, .slice none 0 0, .int .i64 0, .int .i64 0] 110)
        have S2 := HO.out _ b2
        refine hK.out _ _ (fun _ => S2) ?_
        clear hK K
        try simp only [Act.put, Last2.s]
        clear b1
        generalize W1.alloc (.cells #[.slice none 0 0, .slice none 0 0, .slice none 0 0, .int .i64 0, .int .i64 0] 110) = W2 at *
        generalize W1.heap.size = g9 at *
        refine Last2.last_one (i := 11) (o := { dst := some 88, op := .call { callee := .value (.func 114), args := #[.tmp 77, .tmp 78, .tmp 83, .tmp 85, .tmp 86, .tmp 87], argTypes := #[35, 39, 3, 3, 3, 110] }, type := _, pos := _, after := _, guard := _ }) (by kernel_rfl) rfl rfl (fun K hK => ?_)
        go_simp
        refine (hC.out W2 b2).mono ?_
        rintro e W3 ⟨A7, c7, A4, c4, rfl, oy, bq⟩
        unfold outval
        dsimp only
        rw [HN.out]
        have b3 : Below wr.heap.size wr W3 := b2.trans (bq.mono b2.size)
        replace x10 := x10.below bq x10.lt
        replace x9 := x9.below bq x9.lt
        replace oy : W3.ownsRow wr.heap.size 3 1 (.slice A7 s1.says.length c7) s1.says.length (cellsI s1.says) := own_mono oy b2.size
        have S3 := HO.out W3 b3
        refine hK.out _ _ (fun _ => S3) ?_
        clear hK K
        try simp only [Act.put, Last2.s]
        clear bq b2
        refine Last2.last_take (i := 12) (d := some 76) (v := .tuple #[.agg #[.slice A1 s.jobs.length c1, .slice A2 s.hooks.length c2, .slice A7 s1.says.length c7, .int .i64 s1.code, .int .i64 s1.shared], .agg #[.int .i64 k, .int .i64 v, .slice A4 N c4, .int .i64 sp]]) rfl rfl (by kernel_rfl) (by kernel_rfl) (by kernel_rfl) (fun _ _ _ h => h) rfl (by kernel_rfl) (by kernel_rfl) rfl ?_ S3 ?_
        ·(intro V hV; (try dsimp only at hV); go_simp; try with_reducible rfl)
        simp only [Act.put, Last2.s]
        refine Last2.last_take (i := 13) (d := some 89) (v := .agg #[.slice A1 s.jobs.length c1, .slice A2 s.hooks.length c2, .slice A7 s1.says.length c7, .int .i64 s1.code, .int .i64 s1.shared]) rfl rfl (by kernel_rfl) (by kernel_rfl) (by kernel_rfl) (fun _ _ _ h => h) rfl (by kernel_rfl) (by kernel_rfl) rfl ?_ S3 ?_
        ·(intro V hV; (try dsimp only at hV); go_simp; try with_reducible rfl)
        simp only [Act.put, Last2.s]
        refine Last2.last_take (i := 14) (d := some 90) (v := .agg #[.int .i64 k, .int .i64 v, .slice A4 N c4, .int .i64 sp]) rfl rfl (by kernel_rfl) (by kernel_rfl) (by kernel_rfl) (fun _ _ _ h => h) rfl (by kernel_rfl) (by kernel_rfl) rfl ?_ S3 ?_
        ·(intro V hV; (try dsimp only at hV); go_simp; try with_reducible rfl)
        simp only [Act.put, Last2.s]
        have hne := ne_blkF x9 x10 (by decide)
        have z9 := x9.cells
        have f9 := x9.frozen
        refine Last2.last_one (i := 17) (o := { dst := none, op := .store 110 (.tmp 12) (.tmp 89), type := _, pos := _, after := _, guard := none }) (by kernel_rfl) rfl rfl (fun K hK => ?_)
        go_simp
        have y9 := set5 x9 (.slice A1 s.jobs.length c1) (.slice A2 s.hooks.length c2) (.slice A7 s1.says.length c7) (.int .i64 s1.code) (.int .i64 s1.shared)
        have y10 := far5 x10 hne.symm (.slice A1 s.jobs.length c1) (.slice A2 s.hooks.length c2) (.slice A7 s1.says.length c7) (.int .i64 s1.code) (.int .i64 s1.shared)
        have yo := own5 oy (blk_apart oy x9 (by decide)) (.slice A1 s.jobs.length c1) (.slice A2 s.hooks.length c2) (.slice A7 s1.says.length c7) (.int .i64 s1.code) (.int .i64 s1.shared)
        have yb := bel5 b3 lg9 (.slice A1 s.jobs.length c1) (.slice A2 s.hooks.length c2) (.slice A7 s1.says.length c7) (.int .i64 s1.code) (.int .i64 s1.shared)
        have SX := HO.out _ yb
        refine hK.out _ _ (fun _ => SX) ?_
        clear hK K
        try simp only [Act.put, Last2.s]
        clear z9 f9 x9 x10 oy b3
        have z10 := y10.cells
        have f10 := y10.frozen
        refine Last2.last_one (i := 18) (o := { dst := none, op := .store 56 (.tmp 13) (.tmp 90), type := _, pos := _, after := _, guard := none }) (by kernel_rfl) rfl rfl (fun K hK => ?_)
        go_simp
        refine hK.out _ _ (fun h => (h (by decide)).elim) ?_
        clear hK K
        try simp only [Act.put, Last2.s]
        refine Last2.last_done (by kernel_rfl) ?_ _
        (try go_wp2_with fail)
        go_meet
        exact ⟨g9, g10, A7, c7, A4, c4, rfl, rfl, far4 y9 hne (.int .i64 k) (.int .i64 v) (.slice A4 N c4) (.int .i64 sp), Blk.set4 y10 _ _ _ _, own4 yo (blk_apart yo y10 (by decide)) (.int .i64 k) (.int .i64 v) (.slice A4 N c4) (.int .i64 sp), bel4 yb lg10 (.int .i64 k) (.int .i64 v) (.slice A4 N c4) (.int .i64 sp)⟩
     case rest =>
      obtain ⟨g9, g10, A7, c7, A4, c4, rfl, rfl, x9, x10, oy, bx⟩ := hcut
      have SX := SR.out.below bx
      have zb := SX.blk.cells
      have fb := SX.blk.frozen
      have z9 := x9.cells
      have hsz := bx.size
      have hg107 : g10 ≠ b7 := ne_blkF x10 SX.blk (by decide)
      have X10 := hid x10
      have SXh := hid SX
      have OY := hid (own_mono (B' := w.heap.size) oy HBW.out.size)
      clear SX x10 x9 oy bx HO S0 hlt9
      go_upto_region 15 with fail
      change (fun V => Code.wp _ _ _ _ V) _
      refine gen_world (X := fun V => Sn w1 b7 w.heap.size s1 (.slice A1 s1.jobs.length c1) (.slice A2 s1.hooks.length c2) (.slice A7 s1.says.length c7) V ∧ Blk V g10 56 #[.int .i64 k, .int .i64 v, .slice A4 N c4, .int .i64 sp]) ⟨?_, ?_⟩ ?_
      ·rw [E1.out, E2.out]
       exact SXh.out.put5 (by rw [E1.out]; exact SXh.out.j) (by rw [E2.out]; exact SXh.out.h) OY.out
      ·exact far5 X10.out hg107 _ _ _ _ _
      clear zb fb z9 X10 SXh OY
      rintro V ⟨q1, q2⟩
      have SV := hid q1
      have X10 := hid q2
      have hVw : w.heap.size ≤ V.heap.size := Nat.le_trans hw1 q1.chg.size
      clear q1 q2
      have HO := hid (fun (U : World) (b : Below V.heap.size V U) => (show (fun V : World => V.cell? ⟨b7, 1, none⟩ = some (.slice A2 s1.hooks.length c2) ∧ V.cell? ⟨g10, 0, none⟩ = some (.int .i64 k)) U from ⟨(SV.out.blk.below b SV.out.blk.lt).cells 1, (X10.out.below b X10.out.lt).cells 0⟩))
      have b0 : Below V.heap.size V V.drew := (Below.refl _ _).drew
      have S0 := HO.out V.drew b0
      go_cut [] from 92 to 99 (fun wx => ∃ v', Sn w1 b7 w.heap.size { s1 with hooks := s1.hooks ++ [k] } (.slice A1 s1.jobs.length c1) v' (.slice A7 s1.says.length c7) wx ∧ Blk wx g10 56 #[.int .i64 k, .int .i64 v, .slice A4 N c4, .int .i64 sp])
      case first =>
       refine Last2.region_last [8] (fun V : World => V.cell? ⟨b7, 1, none⟩ = some (.slice A2 s1.hooks.length c2) ∧ V.cell? ⟨g10, 0, none⟩ = some (.int .i64 k)) (by kernel_rfl) ?_
       generalize V.drew = U0 at *
       refine tk 0 92 (.pointer (some ⟨b7, 1, none⟩)) S0 ?_
       simp only [Act.put, Last2.s]
       refine tk 1 93 (.slice A2 s1.hooks.length c2) S0 ?_
       simp only [Act.put, Last2.s]
       refine tk 3 95 (.pointer (some ⟨g10, 0, none⟩)) S0 ?_
       simp only [Act.put, Last2.s]
       refine tk 4 96 (.int .i64 k) S0 ?_
       simp only [Act.put, Last2.s]
       refine Last2.last_two (i := 2) (j := 5) (oi := { dst := some 94, op := .call { callee := .value (.func 115), args := #[.tmp 93], argTypes := #[26] }, type := _, pos := _, after := _, guard := none }) (oj := { dst := some 97, op := .buildSlice 26 1 #[(0, .tmp 96)], type := _, pos := _, after := _, guard := none }) (by kernel_rfl) rfl rfl rfl rfl (fun K hK => ?_) (fun K hK => ?_)
       ·go_simp
        refine (l1Own_any w.heap.size A2 s1.hooks.length c2 s1.hooks (by omega) rfl U0 (own_below SV.out.h b0 (Nat.le_refl _))).mono ?_
        rintro e U1 ⟨A8, c8, rfl, o8, bq⟩
        have b1 : Below V.heap.size V U1 := b0.trans (bq.mono b0.size)
        unfold OwnI at o8
        replace o8 := own_mono (B' := V.heap.size) o8 b0.size
        have SS := HO.out _ b1
        refine hK.out _ _ (fun _ => SS) ?_
        clear hK K
        try simp only [Act.put, Last2.s]
        clear bq b0
        refine Last2.last_one (i := 5) (o := { dst := some 97, op := .buildSlice 26 1 #[(0, .tmp 96)], type := _, pos := _, after := _, guard := none }) (by kernel_rfl) rfl rfl (fun K hK => ?_)
        go_simp
        have p0 := App.one_own (heap1_0 U1 (.cells #[.int .i64 k] 3))
        have b2 : Below V.heap.size V (U1.alloc (.cells #[.int .i64 k] 3)) := b1.alloc b1.size _
        replace o8 := World.ownsRow.alloc o8 (.cells #[.int .i64 k] 3)
        have SS := HO.out _ b2
        refine hK.out _ _ (fun _ => SS) ?_
        clear hK K
        try simp only [Act.put, Last2.s]
        clear b1
        generalize U1.alloc (.cells #[.int .i64 k] 3) = W2 at *
        refine Last2.last_one (i := 6) (o := { dst := some 98, op := .call { callee := .builtin .append, args := #[.tmp 94, .tmp 97], argTypes := #[26, 26] }, type := _, pos := _, after := _, guard := none }) (by kernel_rfl) rfl rfl (fun K hK => ?_)
        refine App.row_wp _ (.tmp 94) (.tmp 97) 26 rfl V.heap.size 0 3 i0 _ 1 8 Try.underlying26 hi hz0 hz1 hz2 rfl (by decide) _ _ _ rfl o8 _ 1 [.int .i64 k] rfl p0 (by intro u hu; simp at hu; rcases hu with rfl; rfl) (by unfold maxLen; omega) (by omega) b2.size ?_
        intro v' W3 o9 g9' t9
        obtain ⟨A9, c9, rfl⟩ := own_slice o9
        have ch : Chg (fun x => (Value.slice A8 s1.hooks.length c8).ownBlock = some x) W2 W3 := (Chg.of_grown g9').mono (fun x _ hx => hx.symm)
        have b3 : Below V.heap.size V W3 := b2.trans (ch.below b2.size (fun x hx e => by have := (World.ownsRow.lt o8 x e).1; omega))
        have SY := SV.out.below b3
        have X10b := X10.out.below b3 X10.out.lt
        have SS3 := HO.out W3 b3
        have k7 := SS3.1
        have f7 : W3.frozen? ⟨b7, 1, none⟩ = false := SY.blk.frozen 1
        replace o9 := own_mono (B' := w.heap.size) o9 hVw
        refine hK.out _ _ (fun _ => SS3) ?_
        clear hK K
        try simp only [Act.put, Last2.s]
        clear b2 b3 o8 p0 g9' t9 ch
        refine Last2.last_one (i := 7) (o := { dst := some 99, op := .fieldAddr 110 (.tmp 7) 1, type := _, pos := _, after := _, guard := none }) (by kernel_rfl) rfl rfl (fun K hK => ?_)
        go_simp
        refine hK.out _ _ (fun _ => SS3) ?_
        clear hK K
        try simp only [Act.put, Last2.s]
        refine Last2.last_one (i := 8) (o := { dst := none, op := .store 26 (.tmp 99) (.tmp 98), type := _, pos := _, after := _, guard := none }) (by kernel_rfl) rfl rfl (fun K hK => ?_)
        go_simp
        refine hK.out _ _ (fun h => (h (by decide)).elim) ?_
        clear hK K
        try simp only [Act.put, Last2.s]
        refine Last2.last_done (by kernel_rfl) ?_ _
        (try go_wp2_with fail)
        go_meet
        exact ⟨_, SY.hook (z := k) (by unfold OwnI; rw [List.length_append, List.length_singleton, cellsI_append]; exact o9), X10b.far _ _ hg107⟩
       ·go_simp
        have p0 := App.one_own (heap1_0 U0 (.cells #[.int .i64 k] 3))
        have b1 : Below V.heap.size V (U0.alloc (.cells #[.int .i64 k] 3)) := b0.alloc b0.size _
        have SS := HO.out _ b1
        refine hK.out _ _ (fun _ => SS) ?_
        clear hK K
        try simp only [Act.put, Last2.s]
        clear b0
        generalize U0.alloc (.cells #[.int .i64 k] 3) = U1 at *
        refine Last2.last_one (i := 2) (o := { dst := some 94, op := .call { callee := .value (.func 115), args := #[.tmp 93], argTypes := #[26] }, type := _, pos := _, after := _, guard := none }) (by kernel_rfl) rfl rfl (fun K hK => ?_)
        go_simp
        refine (l1Own_any w.heap.size A2 s1.hooks.length c2 s1.hooks (by omega) rfl U1 (own_below SV.out.h b1 (Nat.le_refl _))).mono ?_
        rintro e W2 ⟨A8, c8, rfl, o8, bq⟩
        have b2 : Below V.heap.size V W2 := b1.trans (bq.mono b1.size)
        unfold OwnI at o8
        replace o8 := own_mono (B' := V.heap.size) o8 b1.size
        replace p0 := own_below p0 bq (Nat.le_refl _)
        have SS := HO.out _ b2
        refine hK.out _ _ (fun _ => SS) ?_
        clear hK K
        try simp only [Act.put, Last2.s]
        clear bq b1
        refine Last2.last_one (i := 6) (o := { dst := some 98, op := .call { callee := .builtin .append, args := #[.tmp 94, .tmp 97], argTypes := #[26, 26] }, type := _, pos := _, after := _, guard := none }) (by kernel_rfl) rfl rfl (fun K hK => ?_)
        refine App.row_wp _ (.tmp 94) (.tmp 97) 26 rfl V.heap.size 0 3 i0 _ 1 8 Try.underlying26 hi hz0 hz1 hz2 rfl (by decide) _ _ _ rfl o8 _ 1 [.int .i64 k] rfl p0 (by intro u hu; simp at hu; rcases hu with rfl; rfl) (by unfold maxLen; omega) (by omega) b2.size ?_
        intro v' W3 o9 g9' t9
        obtain ⟨A9, c9, rfl⟩ := own_slice o9
        have ch : Chg (fun x => (Value.slice A8 s1.hooks.length c8).ownBlock = some x) W2 W3 := (Chg.of_grown g9').mono (fun x _ hx => hx.symm)
        have b3 : Below V.heap.size V W3 := b2.trans (ch.below b2.size (fun x hx e => by have := (World.ownsRow.lt o8 x e).1; omega))
        have SY := SV.out.below b3
        have X10b := X10.out.below b3 X10.out.lt
        have SS3 := HO.out W3 b3
        have k7 := SS3.1
        have f7 : W3.frozen? ⟨b7, 1, none⟩ = false := SY.blk.frozen 1
        replace o9 := own_mono (B' := w.heap.size) o9 hVw
        refine hK.out _ _ (fun _ => SS3) ?_
        clear hK K
        try simp only [Act.put, Last2.s]
        clear b2 b3 o8 p0 g9' t9 ch
        refine Last2.last_one (i := 7) (o := { dst := some 99, op := .fieldAddr 110 (.tmp 7) 1, type := _, pos := _, after := _, guard := none }) (by kernel_rfl) rfl rfl (fun K hK => ?_)
        go_simp
        refine hK.out _ _ (fun _ => SS3) ?_
        clear hK K
        try simp only [Act.put, Last2.s]
        refine Last2.last_one (i := 8) (o := { dst := none, op := .store 26 (.tmp 99) (.tmp 98), type := _, pos := _, after := _, guard := none }) (by kernel_rfl) rfl rfl (fun K hK => ?_)
        go_simp
        refine hK.out _ _ (fun h => (h (by decide)).elim) ?_
        clear hK K
        try simp only [Act.put, Last2.s]
        refine Last2.last_done (by kernel_rfl) ?_ _
        (try go_wp2_with fail)
        go_meet
        exact ⟨_, SY.hook (z := k) (by unfold OwnI; rw [List.length_append, List.length_singleton, cellsI_append]; exact o9), X10b.far _ _ hg107⟩
      case rest =>
       obtain ⟨v', q1, q2⟩ := hcut
       clear SV X10 HO S0 b0
       obtain ⟨A8, c8, rfl⟩ := own_slice q1.h
       generalize wc = V at *
       have SV := hid q1
       have X10 := hid q2
       clear q1 q2 hVw
       have zk : V.cell? ⟨g10, 0, none⟩ = some (.int .i64 k) := X10.out.cells 0
       by_cases k1 : k = 1
       ·have K1 : (k == 1) = true := by simpa using k1
        have HJ1 := HJS.out
        rw [if_pos k1] at HJ1
        have HJT := hid HJ1
        clear HJ1 k1
        go_wp2_with fail
        go_roundw
        case rel => exact ⟨k0, hookS p fuel mode s x, _, _, _, by omega, (by first | exact rfl | go_num), by rw [HJT.out]; exact SV.out, HW2.out, HGN⟩
        case measure => first | (simp [intOf]; done) | (simp [intOf]; omega)
       ·have K1 : (k == 1) = false := by simpa using k1
        have HJ1 := HJS.out
        rw [if_neg k1] at HJ1
        have HJT := hid HJ1
        clear HJ1 k1
        have HO := hid (fun (U : World) (b : Below V.heap.size V U) => (show (fun V : World => V.cell? ⟨b7, 3, none⟩ = some (.int .i64 s1.code) ∧ (∀ o, V.cell? ⟨g10, o, none⟩ = (#[.int .i64 k, .int .i64 v, .slice A4 N c4, .int .i64 sp] : Array Value)[o]?)) U from ⟨(SV.out.blk.below b SV.out.blk.lt).cells 3, (X10.out.below b X10.out.lt).cells⟩))
        have b0 : Below V.heap.size V V.drew := (Below.refl _ _).drew
        have S0 := HO.out V.drew b0
        go_wp2_with fail
        refine Last2.region_last [6] (fun V : World => V.cell? ⟨b7, 3, none⟩ = some (.int .i64 s1.code) ∧ (∀ o, V.cell? ⟨g10, o, none⟩ = (#[.int .i64 k, .int .i64 v, .slice A4 N c4, .int .i64 sp] : Array Value)[o]?)) (by kernel_rfl) ?_
        generalize V.drew = U0 at *
        refine tk 0 103 (.pointer (some ⟨b7, 3, none⟩)) S0 ?_
        simp only [Act.put, Last2.s]
        refine tk 1 104 (.int .i64 s1.code) S0 ?_
        simp only [Act.put, Last2.s]
        refine tk 2 105 (.agg #[.int .i64 k, .int .i64 v, .slice A4 N c4, .int .i64 sp]) S0 ?_
        simp only [Act.put, Last2.s]
        refine Last2.last_one (i := 3) (o := { dst := some 106, op := .call { callee := .value (.func 70), args := #[.tmp 105], argTypes := #[56] }, type := _, pos := _, after := _, guard := none }) (by kernel_rfl) rfl rfl (fun K hK => ?_)
        go_simp
        refine (hco.out A4 c4 _).mono ?_
        rintro e U1 ⟨rfl, bq⟩
        have b1 : Below V.heap.size V U1 := b0.trans (bq.mono b0.size)
        have S1 := HO.out U1 b1
        refine hK.out _ _ (fun _ => S1) ?_
        clear hK K
        try simp only [Act.put, Last2.s]
        refine Last2.last_one (i := 4) (o := { dst := some 107, op := .call { callee := .value (.func 116), args := #[.tmp 104, .tmp 106], argTypes := #[3, 3] }, type := _, pos := _, after := _, guard := none }) (by kernel_rfl) rfl rfl (fun K hK => ?_)
        go_simp
        refine (hmo.out _).mono ?_
        rintro e U2 ⟨rfl, rfl⟩
        have k7 := S1.1
        have SY := SV.out.below b1
        have f7 : U1.frozen? ⟨b7, 3, none⟩ = false := SY.blk.frozen 3
        refine hK.out _ _ (fun _ => S1) ?_
        clear hK K
        try simp only [Act.put, Last2.s]
        refine Last2.last_one (i := 5) (o := { dst := some 108, op := .fieldAddr 110 (.tmp 7) 3, type := _, pos := _, after := _, guard := none }) (by kernel_rfl) rfl rfl (fun K hK => ?_)
        go_simp
        refine hK.out _ _ (fun _ => S1) ?_
        clear hK K
        try simp only [Act.put, Last2.s]
        refine Last2.last_one (i := 6) (o := { dst := none, op := .store 3 (.tmp 108) (.tmp 107), type := _, pos := _, after := _, guard := none }) (by kernel_rfl) rfl rfl (fun K hK => ?_)
        go_simp
        refine hK.out _ _ (fun h => (h (by decide)).elim) ?_
        clear hK K
        try simp only [Act.put, Last2.s]
        refine Last2.last_done (by kernel_rfl) ?_ _
        (try change (fun V => Exit.then _ _ _ _ V) _)
        have X10b := (X10.out.below b1 X10.out.lt).far ⟨b7, 3, none⟩ (.int .i64 mc) hg107
        refine gen_world (X := fun V => Sn w1 b7 w.heap.size { s1 with hooks := s1.hooks ++ [k], code := mc } (.slice A1 s1.jobs.length c1) (.slice A8 ({ s1 with hooks := s1.hooks ++ [k] } : Sen).hooks.length c8) (.slice A7 s1.says.length c7) V ∧ Blk V g10 56 #[.int .i64 k, .int .i64 v, .slice A4 N c4, .int .i64 sp]) ⟨SY.coded mc, X10b⟩ ?_
        clear S0 S1 HO SV X10 X10b SY k7 f7 b0 b1 bq
        rintro U ⟨q1, q2⟩
        have SF2 := hid q1
        clear q1 q2
        go_wp2_with fail
        go_roundw
        case rel => exact ⟨k0, hookS p fuel mode s x, _, _, _, by omega, (by first | exact rfl | go_num), by rw [HJT.out]; exact SF2.out, HW2.out, HGN⟩
        case measure => first | (simp [intOf]; done) | (simp [intOf]; omega)
    ·obtain rfl : kk = 0 := by omega
     have hgo := HG.out
     rw [hooksS] at hgo
     have HGO := hid hgo
     have e0 : (((0 : Nat) : Int) - 1) = -1 := rfl
     rw [e0]
     clear hgo e0
     go_wp2_with fail
     go_meet
     exact ⟨_, _, _, HGO.out ▸ SR.out⟩
  case rest =>
   obtain ⟨v1, v2, v3, hS⟩ := hcut
   obtain ⟨A1, c1, rfl⟩ := own_slice hS.j
   obtain ⟨A2, c2, rfl⟩ := own_slice hS.h
   obtain ⟨A3, c3, rfl⟩ := own_slice hS.y
   have QR := Q2.out.chg hS.chg hb2
   have zb := hS.blk.cells
   have zr := QR.cells
   have fr := QR.frozen
   have HSN := hid hS
   have HQR := hid QR
   have HBB := hid (HBWF.out wc hS.chg)
   clear hS QR SNJ
   go_wp2_with fail
   refine gen_post (X := fun V => Blk V (w.heap.size + 1 + 1) 110 #[.slice A1 SF.jobs.length c1, .slice A2 SF.hooks.length c2, .slice A3 SF.says.length c3, .int .i64 SF.code, .int .i64 SF.shared] ∧ (OwnI V w.heap.size (.slice A1 SF.jobs.length c1) SF.jobs ∧ OwnI V w.heap.size (.slice A2 SF.hooks.length c2) SF.hooks ∧ OwnI V w.heap.size (.slice A3 SF.says.length c3) SF.says) ∧ Below w.heap.size w V) ⟨set5 HQR.out _ _ _ _ _, ⟨own5 HSN.out.j (blk_apart HSN.out.j HQR.out (by decide)) _ _ _ _ _, own5 HSN.out.h (blk_apart HSN.out.h HQR.out (by decide)) _ _ _ _ _, own5 HSN.out.y (blk_apart HSN.out.y HQR.out (by decide)) _ _ _ _ _⟩, bel5 HBB.out (by omega) _ _ _ _ _⟩ ?_
   clear zb zr fr HSN HQR HBB
   rintro V ⟨q1, q2, q3⟩
   have y1 := q1.cells
   have HV := hid (And.intro q2 q3)
   clear q1 q2 q3
   refine bodyPost_ret (v := .agg #[.slice A1 SF.jobs.length c1, .slice A2 SF.hooks.length c2, .slice A3 SF.says.length c3, .int .i64 SF.code, .int .i64 SF.shared]) (by simp [results, Try.results87, go_sem, y1]) rfl ?_
   rw [HF.out]
   exact ⟨_, _, _, rfl, HV.out.1.1, HV.out.1.2.1, HV.out.1.2.2, HV.out.2⟩
end Go.Proofs.Ythejnpignlhgiaa.Sey
-- squeezed
