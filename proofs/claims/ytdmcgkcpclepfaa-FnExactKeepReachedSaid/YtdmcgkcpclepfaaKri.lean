import Derived.Test.YtdmcgkcpclepfaaKrs
import Derived.Test.YtdmcgkcpclepfaaNur
set_option linter.all false
namespace Go.Proofs.Ytdmcgkcpclepfaa.Kri
open Lib (hid)
open Go.ChangeShapes Go.WideShapes Go.ChangeAt Go.RowKit
open PL Mem Srun Sst To LawI StpS MarkP OwnS Res Prg PrgS IntsP SlotP DeferP DropI CalP ReaP Nup Nus Krp Krs Nur
def plK (p : Pg) (g : Int) : List Tr := p.getD g.toNat []
theorem repI_own {V : World} {g n : Nat} (hg' : V.heap[g]? = some (.cells (madeCells #[Value.int .i64 0] n) 3)) (hn : n ≤ 100) : V.ownsRow g 3 1 (.slice (some ⟨g, 0, none⟩) n n) n (cellsI (List.replicate n 0)) := by
 have hg : V.heap[g]? = some (.cells (madeCells #[Value.int .i64 0] (n * 1)) 3) := by rw [Nat.mul_one]; exact hg'
 refine ⟨by rw [cellsI_length]; simp, .inr ⟨g, n, madeCells #[Value.int .i64 0] (n * 1), rfl, Nat.le_refl _, hg, Nat.le_refl _, by unfold maxLen; omega, size_madeCells _ _, ?_⟩⟩
 rw [Nat.mul_one, toList_madeCells_one]
 simp [cellsI, List.map_replicate]
structure KW (ws : World) (n m : Nat) (tn : List Int) (q : Pg) (wr : World) : Prop where
 num : wr.ownsRow ws.heap.size 3 1 (.slice (some ⟨ws.heap.size, 0, none⟩) n n) n (cellsI tn)
 fns : OwnP wr (ws.heap.size + 1) (.slice (some ⟨ws.heap.size + 1, 0, none⟩) m m) q
 bel : Below ws.heap.size ws wr
 siz : ws.heap.size + 1 < wr.heap.size
theorem KW.below {ws V W : World} {n m : Nat} {tn : List Int} {q : Pg} (h : KW ws n m tn q V) (b : Below V.heap.size V W) : KW ws n m tn q W :=
 ⟨own_below (B' := V.heap.size) h.num b (Nat.le_refl _), h.fns.below b, h.bel.trans (b.mono h.bel.size), Nat.lt_of_lt_of_le h.siz b.size⟩
theorem KW.put {ws V : World} {n m : Nat} {tn : List Int} {q : Pg} (h : KW ws n m tn q V) (i : Nat) (z : Int) : KW ws n m (tn.set i z) q (V.setCell ⟨ws.heap.size, i, none⟩ (.int .i64 z)) :=
 ⟨own_setI h.num i z, h.fns.chg (Chg.set V ⟨ws.heap.size, i, none⟩ _) (fun k hk _ he => by have h9 : k = ws.heap.size := he; omega), h.bel.setCell (p := ⟨ws.heap.size, i, none⟩) (Nat.le_refl _) _, by simpa [World.setCell] using h.siz⟩
theorem toJ_zero (R : List Int) (n : Nat) : toJ R n 0 = List.replicate n 0 := rfl
theorem updU_zero (f : Int → List Tr) (b : Pg) (R : List Int) : updU f b R 0 = b := rfl
theorem self_same {p : Pg} {nf n : Nat} (hp : okProg p = true) (hl : p.length = n) (hnf : nf < n) : ∃ t, (toJ (reachL p nf) n (reachL p nf).length)[nf]? = some t ∧ (toK (reachL p nf) n).getD nf 0 = t := by
 subst hl
 have ha := reach_asc p nf
 have hr := reach_rng hp hnf
 obtain ⟨j, hj⟩ := List.getElem?_of_mem (reach_self (p := p) (nf := nf))
 have h1 := toJ_at ha hr hj (reachL p nf).length (List.getElem?_eq_some_iff.1 hj).1
 obtain ⟨i, e, hi, h2⟩ := at_keep ha hr hj
 obtain rfl : nf = i := by omega
 rw [Int.toNat_natCast] at h1
 exact ⟨j, h1, by rw [List.getD_eq_getElem?_getD, h2]; rfl⟩
theorem keep_fits (p : Pg) (f : Int) : Fits (keptR p f).1 := by
 unfold keptR
 cases hfn : isFn p f with
 | false => exact Fits.nil
 | true =>
  obtain ⟨nf, b, rfl, hb, h8, hlt, h6⟩ := isFn_row hfn
  have hok : okProg p = true := (isFn_parts hfn).1
  rw [if_pos rfl, Int.toNat_natCast]
  refine ⟨by show (keepP p (reachL p nf) p.length).length ≤ 6; rw [show (keepP p (reachL p nf) p.length).length = (reachL p nf).length from List.length_map ..]; exact Idp.reach_six hok h6 hlt, fun xs hx => ?_⟩
  obtain ⟨g, hg, rfl⟩ := List.mem_map.1 (show xs ∈ (reachL p nf).map (bodyK p (toK (reachL p nf) p.length)) from hx)
  have h1 := reach_rng hok hlt g hg
  have h2 : g.toNat < p.length := by omega
  have h3 := okProg_row hok (List.getElem?_eq_getElem h2)
  unfold bodyK numB
  rw [List.length_map, List.getD_eq_getElem?_getD, List.getElem?_eq_getElem h2]
  exact Nat.le_trans h3 (by decide)
set_option maxHeartbeats 8000000 in
set_option maxRecDepth 100000 in
theorem keepI_any (lo n c : Nat) (A : Option Addr) (p : Pg) (f : Int) (hn : n ≤ 2000000) (hl : p.length = n) (hsm : Small p 2000000) (w : World) (ho : OwnP w lo (.slice A n c) p) :
  Calls Try.prog 37 #[.agg #[.slice A n c], .int .i64 f] w (KeptR (keptR p f) w) := by
 have hq := hid (fun W (h : Below w.heap.size w W) => ReaP.reaI_any lo n c A p f (by omega) hl (hsm.mono (by omega)) W (ho.below h))
 unfold IntsR at hq
 have hO := hid ho
 clear ho
 cases hfn : isFn p f with
 | false =>
  have hs := hid (keptR_no hfn)
  rw [show reachR p f = ([], false) by unfold reachR; rw [hfn]; rfl] at hq
  clear hfn hl hsm
  go_enter Try.func37, Try.ntmps37
  go_wp2_with fail
  refine (hq.out _ (two_below n c A w)).mono ?_
  rintro e w1 ⟨A0, c0, rfl, o0, b1⟩
  obtain ⟨d0, d1, bb1, s1⟩ := two_facts b1
  have z1 : w1.cell? ⟨w.heap.size + 1, 0, none⟩ = some (.slice none 0 0) := d1.cells 0
  have f1 := d1.frozen 0
  clear d0 d1 b1 o0
  go_wp2_with fail
  refine bodyPost_ret (v := .tuple #[.agg #[.slice none 0 0], .int .i64 0, .bool false]) (by simp [results, Try.results37, go_sem, z1]) rfl (by rw [hs.out]; exact ⟨none, 0, rfl, own_nil _ _, bb1.setCell (by show w.heap.size ≤ w.heap.size + 1; omega) _⟩)
 | true =>
  obtain ⟨nf, b, rfl, hb, h8, hlt, h6⟩ := isFn_row hfn
  have hok : okProg p = true := (isFn_parts hfn).1
  have hrR : keptR p nf = (keepP p (reachL p nf) n, (toK (reachL p nf) n).getD nf 0, true) := by unfold keptR; rw [hfn, if_pos rfl, Int.toNat_natCast, hl]
  rw [show reachR p nf = (reachL p nf, true) by unfold reachR; rw [hfn, if_pos rfl, Int.toNat_natCast]] at hq
  have hrng := reach_rng hok hlt
  have hm6 := Idp.reach_six hok h6 hlt
  have hks := keep_same hok hlt
  rw [hl] at hrng h6 hlt hks
  obtain ⟨t, htj, htk⟩ := self_same hok hl hlt
  have HKS := hid hks
  have HTJ := hid htj
  have HKL := hid (show (keepP p (reachL p nf) n).length = (reachL p nf).length from List.length_map ..)
  rw [htk] at hrR
  have hS := hid hrR
  have HROW := hid (fun (i : Nat) (g : Int) (h : (reachL p nf)[i]? = some g) => (show ∃ (j : Nat) (xs : List Tr), g = j ∧ j < n ∧ p[j]? = some xs ∧ xs.length ≤ 8 ∧ plK p g = xs ∧ (∀ (i : Nat) (s : Tr), xs[i]? = some s → s.1 = 4 ∨ s.1 = 5 → 0 ≤ s.2.1 ∧ s.2.1 < n) from by
   obtain ⟨h1, h2⟩ := hrng g (List.mem_of_getElem? h)
   obtain ⟨j, rfl⟩ := Int.eq_ofNat_of_zero_le h1
   have hj : j < p.length := by omega
   obtain ⟨xs, hx⟩ : ∃ xs, p[j]? = some xs := ⟨_, List.getElem?_eq_getElem hj⟩
   refine ⟨j, xs, rfl, by omega, hx, okProg_row hok hx, by unfold plK; rw [Int.toNat_natCast, List.getD_eq_getElem?_getD, hx]; rfl, fun i s hs hk => ?_⟩
   have h3 := okProg_step hok hx (List.mem_of_getElem? hs)
   unfold okStep at h3
   rw [if_neg (by omega), if_neg (by omega), if_pos hk, Bool.and_eq_true, Bool.and_eq_true, decide_eq_true_eq, decide_eq_true_eq] at h3
   exact ⟨h3.1.1, by omega⟩))
  clear hrR hl hsm hok hfn hb h8 hrng hks htj htk
  generalize reachL p nf = R at *
  dsimp only at hq
  obtain ⟨m, hmn⟩ : ∃ m, R.length = m := ⟨_, rfl⟩
  have HM := hid hmn
  rw [hmn] at hq hm6 HKS HTJ HKL
  obtain ⟨i0, hi, hz0, hz1, hz2⟩ := info_parts infoInt
  obtain ⟨i1, hj, hy0, hy1, hy2⟩ := info_parts infoSteps
  have hmkI := fun W => run_make_rowN (P := Try.prog) 26 3 i0 _ Try.underlying26 hi hz0 .i64 .i64 n n (Nat.le_refl _) (by rw [hz2]; omega) (by omega) W
  have hmkF := fun W => run_make_rowN (P := Try.prog) 29 59 i1 _ Try.underlying29 hj hy0 .i64 .i64 m m (Nat.le_refl _) (by rw [hy2]; omega) (by omega) W
  rw [hz1] at hmkI
  rw [hy1] at hmkF
  clear hi hz0 hz2 hj hy0 hy2
  go_enter Try.func37, Try.ntmps37
  go_wp2_with fail
  refine (hq.out _ (two_below n c A w)).mono ?_
  rintro e ws ⟨Al, cl, rfl, ol, bl⟩
  obtain ⟨d0, d1, bb1, s1⟩ := two_facts bl
  have D0 := hid d0
  have D1 := hid d1
  have BS := hid bb1
  have HHS := hid (fun (V : World) (b : Below ws.heap.size ws V) => (show RdI V ws.heap.size Al R from (ol.rd hmn).below b))
  have z0 : ws.cell? ⟨w.heap.size, 0, none⟩ = some (.slice A n c) := d0.cells 0
  have hsl := d1.lt
  clear d0 d1 bb1 bl ol s1 hq hmn
  go_upto_region 6 with fail
  change (fun V => Code.wp _ _ _ _ V) _
  refine gen_world (X := fun V => KW ws n m (toJ R n 0) (updU (plK p) (List.replicate m []) R 0) V) ⟨own_below (B' := ws.heap.size + 1) (repI_own (V := ws.alloc (.cells (madeCells #[Value.int .i64 0] n) 3)) (heap1_0 ws _) (by omega)) ((Below.refl _ _).alloc (by simp) _) (by simp), rep_own (heap2_1 ws _ _) (Nat.le_refl _) (by omega), App.Bl.alloc (App.Bl.alloc (App.Bl.refl _) _) _, by simp⟩ ?_
  rintro wx hx0
  have X0 := hid hx0
  clear hx0 z0 hmkI hmkF
  go_wp2_with fail
  go_loopw [33] (fun i wr => ∃ k : Nat, k ≤ m ∧ i = .int .i64 k ∧ KW ws n m (toJ R n k) (updU (plK p) (List.replicate m []) R k) wr) (fun i _ => m - (intOf i).toNat)
  case atStart => exact ⟨0, Nat.zero_le _, rfl, X0.out⟩
  case round =>
   obtain ⟨k, hk, rfl, hX⟩ := hrel
   clear X0
   have X := hid hX
   by_cases hkm : k < m
   ·obtain ⟨g, hg⟩ : ∃ g, R[k]? = some g := ⟨_, List.getElem?_eq_getElem (by rw [HM.out]; exact hkm)⟩
    obtain ⟨j, xs, rfl, hjn, hpx, hx8, hpl, -⟩ := HROW.out k g hg
    obtain ⟨al, rfl, -, h0⟩ := (HHS.out wr hX.bel) k _ hg
    have HTN := hid (toJ_next (n := n) hg)
    have HUN := hid (updU_next (f := plK p) (b := List.replicate m []) hg)
    have HGE := hid (show (updU (plK p) (List.replicate m []) R k)[k]? = some [] by rw [updU_ge k (Nat.le_refl _), List.getElem?_replicate, if_pos hkm])
    obtain ⟨u0, hu0⟩ := own_cellI hX.num hjn
    have fz := hX.num.frozenAt
    have HPX := hid hpx
    rw [Int.toNat_natCast] at HTN
    rw [hpl] at HUN
    clear hX hg hpx hpl
    generalize toJ R n k = tn at *
    generalize updU (plK p) (List.replicate m []) R k = q at *
    go_upto_region 10 with fail
    change (fun V => Code.wp _ _ _ _ V) _
    refine gen_world (X := fun V => KW ws n m (tn.set j k) q V) (X.out.put j k) ?_
    rintro wy hy
    have Y := hid hy
    have hbw : Below w.heap.size w wy := BS.out.trans (hy.bel.mono BS.out.size)
    obtain ⟨g0, Ai, ci, rfl, hci, hrow, -, -⟩ := (OwnH.of (hO.out.below hbw)).row HPX.out
    have z0 : wy.cell? ⟨w.heap.size, 0, none⟩ = some (.slice (some ⟨g0, 0, none⟩) n c) := (D0.out.below hy.bel D0.out.lt).cells 0
    obtain ⟨N, hN⟩ : ∃ N, xs.length = N := ⟨_, rfl⟩
    have HC := hid (CopyP.clone_any lo N ci Ai xs (by omega) wy (by rw [hN] at hrow; exact hrow))
    rw [hN] at hci
    clear hy hbw hrow h0 hu0 fz X
    go_wp2_with fail
    refine HC.out.mono ?_
    rintro e wz ⟨A9, c9, rfl, o9, b9⟩
    have YZ := hid (Y.out.below b9)
    obtain ⟨gq, Ao, co, e7, -, hgl, hcell, hfrz, -, -, -, hput⟩ := OwnH_slot (OwnH.of Y.out.fns) HGE.out
    obtain rfl : ws.heap.size + 1 = gq := by simpa using e7
    have fr := hfrz wz (Chg.of_below b9) k
    have z7 : wz.cell? ⟨ws.heap.size + 1, k, none⟩ = some (.slice Ao ([] : List Tr).length co) := (b9.cell (p := ⟨ws.heap.size + 1, k, none⟩) hgl).trans hcell
    have NF := hid (hput wz (.slice A9 N c9) xs (Chg.of_below b9) (by rw [hN]; exact own_mono o9 (by have := Y.out.siz; omega)) (fun x hx => .inr (World.ownsRow.lt o9 x hx).1))
    have NN := hid (own_far YZ.out.num ⟨ws.heap.size + 1, k, none⟩ (.slice A9 N c9) (fun e => by simp [Value.ownBlock] at e))
    have NB := hid (YZ.out.bel.setCell (p := ⟨ws.heap.size + 1, k, none⟩) (by show ws.heap.size ≤ ws.heap.size + 1; omega) (.slice A9 N c9))
    have NS := hid (YZ.out.siz)
    clear hput hfrz hcell o9 b9 Y YZ
    go_wp2_with fail
    go_roundw
    case rel => exact ⟨k + 1, by omega, by go_num, by rw [HTN.out, HUN.out]; exact ⟨NN.out, NF.out, NB.out, by simpa [World.setCell] using NS.out⟩⟩
    case measure => simp [intOf]; omega
   ·obtain rfl : k = m := by omega
    have hall : updU (plK p) (List.replicate k []) R k = R.map (plK p) := by
     have := updU_all (f := plK p) (b := List.replicate k []) (R := R) (by rw [List.length_replicate, HM.out])
     rwa [HM.out] at this
    rw [hall] at hX
    have XQ := hid hX
    have hsz := hX.bel.size
    have z7 : wr.cell? ⟨w.heap.size, 0, none⟩ = some (.slice A n c) := (D0.out.below hX.bel D0.out.lt).cells 0
    have HTL := hid (toJ_len R n k)
    have HDN := hid (show updU (bodyK p (toJ R n k)) (R.map (plK p)) R k = keepP p R n from by
     have := updU_all (f := bodyK p (toJ R n k)) (b := R.map (plK p)) (R := R) (List.length_map ..)
     rw [HM.out, HKS.out] at this
     exact this)
    clear hX X hall z7 HKS
    generalize toJ R n k = tn at *
    go_wp2_with fail
    go_loopw [54] (fun i wr => ∃ j : Nat, j ≤ k ∧ i = .int .i64 j ∧ KW ws n k tn (updU (bodyK p tn) (R.map (plK p)) R j) wr) (fun i _ => k - (intOf i).toNat)
    case atStart => exact ⟨0, Nat.zero_le _, rfl, XQ.out⟩
    case round =>
     obtain ⟨j, hj, rfl, hX⟩ := hrel
     clear XQ hsz
     have X := hid hX
     by_cases hjm : j < k
     ·obtain ⟨g, hg⟩ : ∃ g, R[j]? = some g := ⟨_, List.getElem?_eq_getElem (by rw [HM.out]; exact hjm)⟩
      obtain ⟨jj, xs, rfl, hjn, hpx, hx8, hpl, hcl⟩ := HROW.out j g hg
      have HUN := hid (updU_next (f := bodyK p tn) (b := R.map (plK p)) hg)
      have HBD := hid (show bodyK p tn (jj : Int) = numB tn xs from by
       show numB tn (plK p (jj : Int)) = _
       rw [hpl])
      have hge : (updU (bodyK p tn) (R.map (plK p)) R j)[j]? = some xs := by rw [updU_ge j (Nat.le_refl _), List.getElem?_map, hg, ← hpl]; rfl
      obtain ⟨gf, Ai, ci, e7, hci, hrow, hbd, hput⟩ := (OwnH.of hX.fns).row hge
      obtain rfl : ws.heap.size + 1 = gf := by simpa using e7
      obtain ⟨N, hN⟩ : ∃ N, xs.length = N := ⟨_, rfl⟩
      rw [hN] at hci hrow hbd hput
      have HREN := hid (ren_any (ws.heap.size + 1) N ci n n 0 Ai (some ⟨ws.heap.size, 0, none⟩) xs tn (by omega) hN HTL.out (by omega) hcl wr hrow (rdI_own hX.num) (fun x hx ad e => by cases e; have := (hbd x hx).1; show ws.heap.size ≠ x; omega))
      have HPT := hid hput
      have HBB := hid hbd
      have HNL := hid (show (numB tn xs).length = N from by unfold numB; rw [List.length_map, hN])
      clear hX hg hpx hpl hcl hge hrow hbd hput e7 hN
      go_wp2_with fail
      refine HREN.out.mono ?_
      rintro e wz ⟨rfl, orow, ch⟩
      have NX := hid (show KW ws n k tn ((updU (bodyK p tn) (R.map (plK p)) R j).set j (numB tn xs)) wz from
       ⟨own_chg X.out.num ch (fun x hx he => by have h1 := (HBB.out x he).1; have h2 : ws.heap.size = x := (by simpa [Value.ownBlock] using hx); omega), (HPT.out wz (numB tn xs) HNL.out orow ch).own,
        X.out.bel.trans (ch.below X.out.bel.size (fun x hx he => by have h1 := (HBB.out x he).1; omega)), Nat.lt_of_lt_of_le X.out.siz ch.size⟩)
      clear orow ch
      go_wp2_with fail
      go_roundw
      case rel => exact ⟨j + 1, by omega, by go_num, by rw [HUN.out, HBD.out]; exact NX.out⟩
      case measure => simp [intOf]; omega
     ·obtain rfl : j = k := by omega
      rw [HDN.out] at hX
      have XF := hid hX
      have ht := (hX.num.cellAt (g := ws.heap.size) nf (by omega)).trans (cellsI_at tn nf t HTJ.out)
      have hB := D1.out.below hX.bel D1.out.lt
      have z4 : wr.cell? ⟨w.heap.size + 1, 0, none⟩ = some (.slice none 0 0) := hB.cells 0
      have f4 := hB.frozen 0
      have HBK := hid hB
      have hne : ws.heap.size ≠ w.heap.size + 1 := by omega
      clear hX hB X
      go_wp2_with fail
      have hT1 : wr.drew.cell? ⟨ws.heap.size, nf, none⟩ = some (.int .i64 t) := ht
      have S0 : (fun V : World => V.cell? ⟨ws.heap.size, nf, none⟩ = some (.int .i64 t)) wr.drew := ht
      have S1 : (fun V : World => V.cell? ⟨ws.heap.size, nf, none⟩ = some (.int .i64 t)) (wr.drew.setCell ⟨w.heap.size + 1, 0, none⟩ (.slice (some ⟨ws.heap.size + 1, 0, none⟩) j j)) :=
       (World.cell?_setCell_far wr.drew ⟨w.heap.size + 1, 0, none⟩ _ _ (by show w.heap.size + 1 ≠ ws.heap.size; omega)).trans ht
      refine Last2.region_last [] (fun V : World => V.cell? ⟨ws.heap.size, nf, none⟩ = some (.int .i64 t)) (by kernel_rfl) ?_
      refine Last2.tk 0 62 (.slice (some ⟨ws.heap.size + 1, 0, none⟩) j j) S0 ?_
      simp only [Act.put, Last2.s]
      refine Last2.tk 1 63 (.agg #[.slice (some ⟨ws.heap.size + 1, 0, none⟩) j j]) S0 ?_
      simp only [Act.put, Last2.s]
      refine Last2.tk 2 64 (.slice (some ⟨ws.heap.size, 0, none⟩) n n) S0 ?_
      simp only [Act.put, Last2.s]
      refine Last2.tk 3 65 (.int .i64 nf) S0 ?_
      simp only [Act.put, Last2.s]
      refine Last2.tk 4 66 (.pointer (some ⟨ws.heap.size, nf, none⟩)) S0 ?_
      simp only [Act.put, Last2.s]
      refine Last2.tk 5 67 (.int .i64 t) S0 ?_
      simp only [Act.put, Last2.s]
      refine Last2.last_one (i := 6) (o := { dst := none, op := .store 31 (.tmp 4) (.tmp 63), type := _, pos := _, after := _, guard := _ }) (by kernel_rfl) rfl rfl (fun K hK => ?_)
      go_simp
      refine hK.out _ _ (fun _ => S1) ?_
      clear hK K
      try simp only [Act.put, Last2.s]
      refine Last2.last_take (i := 7) (d := some 5) (v := .int .i64 t) rfl rfl (by kernel_rfl) (by kernel_rfl) (by kernel_rfl) (fun _ _ _ h => h) rfl (by kernel_rfl) (by kernel_rfl) rfl ?_ S1 ?_
      ·(intro V hV; (try dsimp only at hV); go_simp; try with_reducible rfl)
      simp only [Act.put, Last2.s]
      refine Last2.last_take (i := 8) (d := some 6) (v := .bool true) rfl rfl (by kernel_rfl) (by kernel_rfl) (by kernel_rfl) (fun _ _ _ h => h) rfl (by kernel_rfl) (by kernel_rfl) rfl ?_ S1 ?_
      ·(intro V hV; (try dsimp only at hV); go_simp; try with_reducible rfl)
      simp only [Act.put, Last2.s]
      refine Last2.last_done (by kernel_rfl) ?_ _
      clear S0 S1 z4 f4 hT1 ht
      have z5 : (wr.setCell ⟨w.heap.size + 1, 0, none⟩ (.slice (some ⟨ws.heap.size + 1, 0, none⟩) j j)).cell? ⟨w.heap.size + 1, 0, none⟩ = some (.slice (some ⟨ws.heap.size + 1, 0, none⟩) j j) := (HBK.out.put 0 _).cells 0
      go_wp2_with fail
      refine bodyPost_ret (v := .tuple #[.agg #[.slice (some ⟨ws.heap.size + 1, 0, none⟩) j j], .int .i64 t, .bool true]) (by simp [results, Try.results37, go_sem, z5]) rfl ?_
      rw [hS.out]
      refine ⟨some ⟨ws.heap.size + 1, 0, none⟩, j, by rw [HKL.out], ?_, (BS.out.trans (XF.out.bel.drew.mono BS.out.size)).setCell (p := ⟨w.heap.size + 1, 0, none⟩) (by show w.heap.size ≤ w.heap.size + 1; omega) _⟩
      rw [HKL.out]
      exact (((XF.out.fns.below (Below.refl _ _).drew)).chg (Chg.set wr.drew ⟨w.heap.size + 1, 0, none⟩ _) (fun x hx _ he => by have h9 : x = w.heap.size + 1 := he; omega)).mono (by omega)
end Go.Proofs.Ytdmcgkcpclepfaa.Kri
-- squeezed
