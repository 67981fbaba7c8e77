import Derived.Test.YtgcjlkdahlfjlaaGpi
set_option linter.all false
namespace Go.Proofs.Ytgcjlkdahlfjlaa.Gps
open Go.ChangeShapes Go.WideShapes Go.ChangeAt Go.RowKit
open PL Mem Srun Sst IntsP RowA RowC AccP Swhole Pw Px Ipm Ise Iex Irc Ipa Iun Irs To OwnS AskP Res Sout Irp RunF AcctP TreeP LawI LawA LawN DepQ Po Irf Sv Svi Gpi Smk Ssim
open Lib (hid)
open Last2 (tk)
theorem row_form {V : World} {B e sz n c : Nat} {A : Option Addr} {xs : List Value} (h : V.ownsRow B e sz (.slice A n c) n xs) (hn : 0 < n) : ∃ b, A = some ⟨b, 0, none⟩ := by
 rcases own_form h with ⟨h0, _⟩ | ⟨_, b, cap, hv, _⟩
 ·omega
 ·simp only [Value.slice.injEq] at hv
  exact ⟨b, hv.1⟩
set_option maxRecDepth 100000 in
set_option maxHeartbeats 8000000 in
theorem gapS_any (lo n c : Nat) (A : Option Addr) (p : Pg) (f arg fuel : Int) (hn : n ≤ 9223372036854775807) (hl : p.length = n) (hsm : Small p 9223372036854775807) (w : World) (ho : OwnP w lo (.slice A n c) p) :
  Calls Try.prog 47 #[.agg #[.slice A n c], .int .i64 f, .int .i64 arg, .int .i64 fuel] w (IntsR (gapR p f arg fuel) w) := by
 obtain ⟨i0, hi, hz0, hz1, hz2⟩ := info_parts info3
 have hq := hid (fun W (h : Below w.heap.size w W) => l2Ask_any w.heap.size A n c p f arg fuel hn hl hsm W (ho.rd.below h) h.size)
 have HAL := hid (fun o1 o2 : Obj => (((Below.refl w.heap.size w).alloc (Nat.le_refl _) o1).alloc (by simp) o2))
 have HALs := hid (HAL.out (.cells #[.slice A n c] 31) (.cells #[] 3))
 have HE := hid (show OwnI ((w.alloc (.cells #[.slice A n c] 31)).alloc (.cells #[] 3)) w.heap.size (.slice (some ⟨w.heap.size + 1, 0, none⟩) 0 0) [] from App.empty_own (heap2_1 w _ _) (by omega))
 have hlen := runR_len p f arg fuel
 cases ha : asks p f arg fuel with
 | false =>
  have hr := hid (show gapR p f arg fuel = ([], false) by unfold gapR runR; rw [ha]; rfl)
  rw [ha] at hq
  clear ha ho hsm hlen
  go_enter Try.func47, Try.ntmps47
  go_wp2_with fail
  refine (hq.out _ HALs.out).mono ?_
  rintro e w1 ⟨rfl, b1⟩
  have O := hid (own_below HE.out b1 (Nat.le_refl _))
  have B := hid (HALs.out.trans (b1.mono HALs.out.size))
  clear b1
  go_wp2_with fail
  go_ret2
  exact ⟨_, _, by rw [hr.out] <;> rfl, by rw [hr.out]; exact O.out, B.out⟩
 | true =>
  obtain ⟨h1, h2, h3, h4, h5, h6⟩ := start_wf (n := n) ha
  have hn6 : p.length ≤ 6 ∧ Small p 8 := okProg_small h1
  have hru := hid (fun W (h : Below w.heap.size w W) => l2Run_any lo n c A p f arg fuel hl (hn6.2.mono (by omega)) (by omega) ha W (ho.below h))
  have hC1 := hid (fun W (h : Below w.heap.size w W) => rcbS_any lo n c A p f arg fuel hn hl hsm W (ho.below h))
  have hC2 := hid (fun W (h : Below w.heap.size w W) => pdpS_any lo n c A p f arg fuel hn hl hsm W (ho.below h))
  have hC3 := hid (fun W (h : Below w.heap.size w W) => depS_any lo n c A p f arg fuel hn hl hsm W (ho.below h))
  have hrr : runR p f arg fuel = (run p fuel f arg, true) := by unfold runR; rw [ha]; rfl
  have hr : gapR p f arg fuel = (gapL (run p fuel f arg).trace, true) := by unfold gapR; rw [hrr]
  have e1 : rcbR p f arg fuel = ((mds (run p fuel f arg).trace).rcv, true) := by unfold rcbR; rw [panR_runR, hrr]
  have e2 : pdpR p f arg fuel = ((mds (run p fuel f arg).trace).pan.map pdep, true) := by unfold pdpR; rw [panR_runR, hrr]
  have e3 : depR p f arg fuel = (depL (tds (run p fuel f arg).trace).calls (tds (run p fuel f arg).trace).calls.length, true) := by
   have : depR p f arg fuel = (depL (tds (runR p f arg fuel).1.trace).calls (tds (runR p f arg fuel).1.trace).calls.length, (runR p f arg fuel).2) := rfl
   rw [this, hrr]
  have hlens := panR_lens p f arg fuel
  rw [panR_runR, hrr] at hlens
  have hMl := Nat.le_trans (tds_len (runR p f arg fuel).1.trace).2 (runR_len p f arg fuel)
  have hwh := runR_whole (p := p) (f := f) (arg := arg) (fuel := fuel) (by rw [hrr])
  have hpd := runR_pds p f arg fuel
  have hfd := runR_fds p f arg fuel
  rw [hrr] at hlen hwh hpd hfd hMl
  rw [ha] at hq
  unfold PrsR at hC1
  unfold IntsR at hC2 hC3
  rw [e1] at hC1
  rw [e2] at hC2
  rw [e3] at hC3
  clear ha ho hsm h1 h2 h3 h4 h5 h6 hn6 hrr e1 e2 e3
  generalize run p fuel f arg = r at *
  obtain ⟨k, v, t, s⟩ := r
  dsimp only at hr hlen hwh hpd hfd hMl hlens hC1 hC2 hC3
  obtain ⟨T, hT⟩ : ∃ T, t.length = T := ⟨_, rfl⟩
  obtain ⟨M, hM⟩ : ∃ M, (tds t).calls.length = M := ⟨_, rfl⟩
  obtain ⟨N, hN⟩ : ∃ N, (mds t).rcv.length = N := ⟨_, rfl⟩
  obtain ⟨np, hnp⟩ : ∃ np, ((mds t).pan.map pdep).length = np := ⟨_, rfl⟩
  have hdl := depL_len (tds t).calls M (by omega)
  have hNl : N ≤ 100000 := by rw [← hN]; exact hlens.rcv
  have hnpl : np ≤ 100000 := by rw [← hnp, List.length_map]; exact hlens.pan
  have hSL : (savL t T).length = N := by rw [← hT, sav_rcv_len hpd hfd]; exact hN
  have hGL : (gapL t).length = N := by rw [gapL_len hpd hfd]; exact hN
  have HAT := hid (fun (j : Nat) (hj : j < N) => (show ∃ (kk o : Nat) (dx d rc : Int), (mds t).rcv[j]? = some ((kk : Int), rc) ∧ ((mds t).pan.map pdep)[kk]? = some dx ∧ kk < np ∧ (savL t T)[j]? = some (o : Int) ∧ (depL (tds t).calls M)[o]? = some d ∧ o < M ∧ (gapL t)[j]? = some (dx - d) ∧ 1 ≤ d ∧ d ≤ M ∧ 1 ≤ dx ∧ dx ≤ M from (by
   obtain ⟨kk, o, rc, x, d, h1, h2, h3, h4, h5, h6⟩ := gap_at hpd hfd (j := j) (by omega)
   rw [hM] at h4 h5
   have hk := (List.getElem?_eq_some_iff.1 h3).1
   have ho := (List.getElem?_eq_some_iff.1 h4).1
   have hb1 := depL_bound (tds t).calls M d (List.mem_of_getElem? h4)
   have hb2 := depL_bound (tds t).calls M _ (List.mem_of_getElem? h5)
   exact ⟨kk, o, pdep x, d, rc, h1, by rw [List.getElem?_map, h3]; rfl, by rw [← hnp, List.length_map]; exact hk, hT ▸ h2, h4, by omega, h6, hb1.1, hb1.2, hb2.1, hb2.2⟩)))
  rw [hN] at hC1
  rw [hnp] at hC2
  rw [hM, hdl] at hC3
  rw [hT] at hlen
  rw [hM] at hMl
  have HT := hid hT
  have HR := hid hr
  have HWH := hid hwh
  have HPD := hid hpd
  have HSL := hid hSL
  have HGL := hid hGL
  have HDL := hid hdl
  have HNP := hid hnp
  have HNN := hid hN
  generalize hbyl : (mds t).rcv = byl at *
  generalize hmal : (mds t).pan.map pdep = mal at *
  generalize hDs : depL (tds t).calls M = Ds at *
  clear hr hwh hpd hfd hlens hM hN hnp hdl hSL hGL hbyl hmal hDs
  go_enter Try.func47, Try.ntmps47
  go_wp2_with fail
  refine (hq.out _ HALs.out).mono ?_
  rintro e w1 ⟨rfl, b1⟩
  have a1' : Blk w1 w.heap.size 31 #[.slice A n c] := Blk.below (heap2_0 w (.cells #[.slice A n c] 31) (.cells #[] 3)) b1 (by simp <;> omega)
  have k1 : w1.cell? ⟨w.heap.size, 0, none⟩ = some (.slice A n c) := a1'.cells 0
  have PB := hid a1'
  have bb := hid (HALs.out.trans (b1.mono HALs.out.size))
  have hs1 : w.heap.size + 2 ≤ w1.heap.size := by have := b1.size; simpa using this
  have O1 := hid (own_below HE.out b1 (Nat.le_refl _))
  clear b1 hq HE a1'
  go_wp2_with fail
  refine (hC1.out _ bb.out).mono ?_
  rintro e w2 ⟨Ab, cb, rfl, ob, b2⟩
  have k2 : w2.cell? ⟨w.heap.size, 0, none⟩ = some (.slice A n c) := (PB.out.below b2 (by omega)).cells 0
  have BY := hid (show w2.ownsRow w1.heap.size 94 2 (.slice Ab N cb) N (cells2 byl) from (by have := ob; unfold OwnA at this; rwa [HNN.out] at this))
  have B2 := hid b2
  have hs2 := b2.size
  clear ob b2 k1 hC1
  go_wp2_with fail
  refine (hC2.out _ (bb.out.trans (B2.out.mono (by omega)))).mono ?_
  rintro e w3 ⟨Am, cm, rfl, om, b3⟩
  have k3 : w3.cell? ⟨w.heap.size, 0, none⟩ = some (.slice A n c) := (PB.out.below (B2.out.trans (b3.mono hs2)) (by omega)).cells 0
  have MA := hid (show w3.ownsRow w2.heap.size 3 1 (.slice Am np cm) np (cellsI mal) from (by have := om; unfold OwnI at this; rwa [HNP.out] at this))
  have B3 := hid b3
  have hs3 := b3.size
  clear om b3 k2 hC2
  go_wp2_with fail
  refine (hC3.out _ (bb.out.trans ((B2.out.mono (by omega)).trans (B3.out.mono (by omega))))).mono ?_
  rintro e w4 ⟨Ad, cd, rfl, od, b4⟩
  have k4 : w4.cell? ⟨w.heap.size, 0, none⟩ = some (.slice A n c) := (PB.out.below ((B2.out.trans (B3.out.mono hs2)).trans (b4.mono (by omega))) (by omega)).cells 0
  have DE := hid (show w4.ownsRow w3.heap.size 3 1 (.slice Ad M cd) M (cellsI Ds) from (by have := od; unfold OwnI at this; rwa [HDL.out] at this))
  have B4 := hid b4
  have hs4 := b4.size
  clear od b4 k3 hC3
  go_wp2_with fail
  have BW4 := hid (show Below w.heap.size w w4 from bb.out.trans ((B2.out.mono (by omega)).trans ((B3.out.mono (by omega)).trans (B4.out.mono (by omega)))))
  refine (hru.out _ BW4.out).mono ?_
  rintro e w5 ⟨A2, c2, rfl, ht, b5⟩
  unfold outval
  have B5 := hid b5
  have hs5 := b5.size
  have HS5 := hid (l5Saved_any w5.heap.size T c2 A2 t HWH.out HPD.out HT.out hlen w5 (rd_own (n := T) (c := c2) (by have h := ht; unfold Tre at h; dsimp only at h; rw [hT] at h; exact h)) (Nat.le_refl _))
  dsimp only
  rw [hT]
  clear k4 hru b5 ht hT
  have hf2 := fun u => Po.out_field2' (.int .i64 k) (.int .i64 v) (.slice A2 T c2) (.int .i64 s) u
  go_wp2_with fail
  refine HS5.out.mono ?_
  rintro e w6 ⟨As, cs, rfl, os, b6⟩
  have hs6 := b6.size
  rw [HSL.out]
  have SA := hid (show w6.ownsRow w1.heap.size 3 1 (.slice As N cs) N (cellsI (savL t T)) from own_mono (by have := os; unfold OwnI at this; rwa [HSL.out] at this) (by omega))
  have DE6 := hid (own_mono (own_below (own_below DE.out B5.out (Nat.le_refl _)) b6 (Nat.le_refl _)) (show w1.heap.size ≤ w3.heap.size by omega))
  have MA6 := hid (own_mono (own_below (own_below (own_below MA.out B4.out (Nat.le_refl _)) B5.out (Nat.le_refl _)) b6 (Nat.le_refl _)) (show w1.heap.size ≤ w2.heap.size by omega))
  have BY6 := hid (own_below (own_below (own_below (own_below BY.out B3.out (Nat.le_refl _)) B4.out (Nat.le_refl _)) B5.out (Nat.le_refl _)) b6 (Nat.le_refl _))
  have B16 := hid (show Below w1.heap.size w1 w6 from B2.out.trans ((B3.out.mono (by omega)).trans ((B4.out.mono (by omega)).trans ((B5.out.mono (by omega)).trans (b6.mono (by omega))))))
  have O6 := hid (own_below O1.out B16.out (Nat.le_refl _))
  have BW := hid (bb.out.trans (B16.out.mono (by omega)))
  clear os b6 HS5 hf2 DE MA BY B2 B3 B4 B5 BW4 B16 O1 bb PB
  obtain ⟨hh, hhh⟩ : ∃ hh, w6.heap.size = hh := ⟨_, rfl⟩
  go_wp2_with fail
  go_loopw [10, 18] (fun v i wr => ∃ (j : Nat) (A' : Option Addr) (c' : Nat), j ≤ N ∧ i = .int .i64 j ∧ v = .slice A' ((gapL t).take j).length c' ∧ OwnI wr w.heap.size (.slice A' ((gapL t).take j).length c') ((gapL t).take j) ∧ (∀ x, (Value.slice A' ((gapL t).take j).length c').ownBlock = some x → x = w.heap.size + 1 ∨ hh ≤ x) ∧ Chg (fun x => x = w.heap.size + 1 ∨ hh ≤ x) w6 wr ∧ Below w.heap.size w wr) (fun _ i _ => N - (intOf i).toNat)
  case atStart => exact ⟨0, _, _, Nat.zero_le _, rfl, rfl, O6.out, fun x hx => by simp only [Value.ownBlock, Option.some.injEq] at hx; exact .inl hx.symm, Chg.refl _ _, BW.out⟩
  case round =>
   obtain ⟨j, A', c', hj, rfl, rfl, hown, hob, hck, hb⟩ := hrel
   clear O6 BW
   have hlo : w.heap.size ≤ wr.heap.size := hb.size
   have hhr : hh ≤ wr.heap.size := by rw [← hhh]; exact hck.size
   by_cases hlt : j < N
   ·obtain ⟨kk, o, dx, d, rc, hq, hm, hkn, hso, hdo, hol, hgj, hd1, hd2, hd3, hd4⟩ := HAT.out j hlt
    obtain ⟨bb, rfl⟩ := row_form BY6.out (by omega)
    obtain ⟨bm, rfl⟩ := row_form MA6.out (by omega)
    obtain ⟨bs, rfl⟩ := row_form SA.out (by omega)
    obtain ⟨bd, rfl⟩ := row_form DE6.out (by omega)
    have HS := hid (fun V (b : Chg (fun x => x = w.heap.size + 1 ∨ hh ≤ x) w6 V) => (show (fun V : World => V.cell? ⟨bb, j * 2, none⟩ = some (.int .i64 kk) ∧ V.cell? ⟨bm, kk, none⟩ = some (.int .i64 dx) ∧ V.cell? ⟨bs, j, none⟩ = some (.int .i64 o) ∧ V.cell? ⟨bd, o, none⟩ = some (.int .i64 d)) V from (by
     have f : ∀ {e sz m B : Nat} {g : Nat} {c m' : Nat} {xs : List Value}, w1.heap.size ≤ B → w6.ownsRow B e sz (.slice (some ⟨g, 0, none⟩) m c) m' xs → V.ownsRow B e sz (.slice (some ⟨g, 0, none⟩) m c) m' xs := fun hB ho => own_chg ho b (fun y hy hc => by
      have h1 := World.ownsRow.lt ho y hy
      omega)
     exact ⟨((f (Nat.le_refl _) BY6.out).cellAt (j * 2) (by omega)).trans (cells2_at _ _ _ hq).1, ((f (Nat.le_refl _) MA6.out).cellAt kk (by omega)).trans (cellsI_at _ _ _ hm), ((f (Nat.le_refl _) SA.out).cellAt j (by omega)).trans (cellsI_at _ _ _ hso), ((f (Nat.le_refl _) DE6.out).cellAt o (by omega)).trans (cellsI_at _ _ _ hdo)⟩)))
    have hwr : IntKind.i64.wrap (dx - d) = dx - d := IntWalk.i64_in _ (by omega)
    have HXX := hid (show (gapL t).take (j + 1) = (gapL t).take j ++ [dx - d] by rw [List.take_add_one, hgj]; rfl)
    have hql : ((gapL t).take j).length ≤ 100000 := by rw [List.length_take]; omega
    have HB := hid hb
    have CK := hid hck
    have HO0 := hid hob
    have O := hid hown
    clear hb hck hob hown hq hm hso hdo hgj
    generalize (gapL t).take j = q at *
    go_wp2_with fail
    have S0 : (fun V : World => V.cell? ⟨bb, j * 2, none⟩ = some (.int .i64 kk) ∧ V.cell? ⟨bm, kk, none⟩ = some (.int .i64 dx) ∧ V.cell? ⟨bs, j, none⟩ = some (.int .i64 o) ∧ V.cell? ⟨bd, o, none⟩ = some (.int .i64 d)) wr.drew := HS.out _ (CK.out.trans (Chg.drew (fun _ => False) _) (fun _ _ h => h.elim))
    refine Last2.region_last [19] (fun V : World => V.cell? ⟨bb, j * 2, none⟩ = some (.int .i64 kk) ∧ V.cell? ⟨bm, kk, none⟩ = some (.int .i64 dx) ∧ V.cell? ⟨bs, j, none⟩ = some (.int .i64 o) ∧ V.cell? ⟨bd, o, none⟩ = some (.int .i64 d)) (by kernel_rfl) ?_
    refine tk 0 64 (.slice A' q.length c') S0 ?_
    simp only [Act.put, Last2.s]
    refine tk 1 65 (.slice (some ⟨bm, 0, none⟩) np cm) S0 ?_
    simp only [Act.put, Last2.s]
    refine tk 2 66 (.slice (some ⟨bb, 0, none⟩) N cb) S0 ?_
    simp only [Act.put, Last2.s]
    refine tk 3 67 (.int .i64 j) S0 ?_
    simp only [Act.put, Last2.s]
    refine tk 4 68 (.pointer (some ⟨bb, j * 2, none⟩)) S0 ?_
    simp only [Act.put, Last2.s]
    refine tk 5 69 (.pointer (some ⟨bb, j * 2, none⟩)) S0 ?_
    simp only [Act.put, Last2.s]
    refine tk 6 70 (.int .i64 kk) S0 ?_
    simp only [Act.put, Last2.s]
    refine tk 7 71 (.pointer (some ⟨bm, kk, none⟩)) S0 ?_
    simp only [Act.put, Last2.s]
    refine tk 8 72 (.int .i64 dx) S0 ?_
    simp only [Act.put, Last2.s]
    refine tk 9 73 (.slice (some ⟨bd, 0, none⟩) M cd) S0 ?_
    simp only [Act.put, Last2.s]
    refine tk 10 74 (.slice (some ⟨bs, 0, none⟩) N cs) S0 ?_
    simp only [Act.put, Last2.s]
    refine tk 11 75 (.int .i64 j) S0 ?_
    simp only [Act.put, Last2.s]
    refine tk 12 76 (.pointer (some ⟨bs, j, none⟩)) S0 ?_
    simp only [Act.put, Last2.s]
    refine tk 13 77 (.int .i64 o) S0 ?_
    simp only [Act.put, Last2.s]
    refine tk 14 78 (.pointer (some ⟨bd, o, none⟩)) S0 ?_
    simp only [Act.put, Last2.s]
    refine tk 15 79 (.int .i64 d) S0 ?_
    simp only [Act.put, Last2.s]
    refine tk 16 80 (.int .i64 (dx - d)) S0 ?_
    simp only [Act.put, Last2.s]
    refine Last2.last_one (i := 17) (o := { dst := some 81, op := .buildSlice 38 1 #[(0, .tmp 80)], type := _, pos := _, after := _, guard := none }) (by kernel_rfl) rfl rfl (fun K hK => ?_)
    go_simp
    have S1 : (fun V : World => V.cell? ⟨bb, j * 2, none⟩ = some (.int .i64 kk) ∧ V.cell? ⟨bm, kk, none⟩ = some (.int .i64 dx) ∧ V.cell? ⟨bs, j, none⟩ = some (.int .i64 o) ∧ V.cell? ⟨bd, o, none⟩ = some (.int .i64 d)) (wr.alloc (.cells #[.int .i64 (dx - d)] 3)).drew := HS.out _ (CK.out.trans (Chg.trans (Chg.alloc (fun _ => False) wr _) (Chg.drew (fun _ => False) _) (fun _ _ h => h)) (fun _ _ h => h.elim))
    refine hK.out _ _ (fun _ => S1) ?_
    clear hK K S0
    try simp only [Act.put, Last2.s]
    have o0 := World.ownsRow.alloc O.out (.cells #[.int .i64 (dx - d)] 3)
    have p0 := App.one_own (heap1_0 wr (.cells #[.int .i64 (dx - d)] 3))
    refine Last2.last_one (i := 18) (o := { dst := some 82, op := .call { callee := .builtin .append, args := #[.tmp 64, .tmp 81], argTypes := #[38, 38] }, type := _, pos := _, after := _, guard := none }) (by kernel_rfl) rfl rfl (fun K hK => ?_)
    refine App.row_wp _ (.tmp 64) (.tmp 81) 38 rfl w.heap.size 0 3 i0 _ 1 8 Try.underlying38 hi hz0 hz1 hz2 rfl (by decide) _ _ _ rfl o0 _ 1 [.int .i64 (dx - d)] rfl p0 (by intro u hu; simp at hu; rcases hu with rfl; rfl) (by unfold maxLen; omega) (by omega) (by show w.heap.size ≤ (wr.alloc _).heap.size; rw [World.size_alloc]; omega) ?_
    intro v1 w1' o1 g1 t1
    have ch : Chg (fun x => (Value.slice A' q.length c').ownBlock = some x) wr w1' := Chg.trans (b := (wr.alloc (.cells #[.int .i64 (dx - d)] 3)).drew) (Chg.trans (Chg.alloc _ wr _) (Chg.drew (fun _ => False) _) (fun _ _ h => h.elim)) (Chg.of_grown g1) (fun x _ hx => hx.symm)
    have CK1 := hid (CK.out.trans ch (fun x _ h => HO0.out x h))
    have S2 : (fun V : World => V.cell? ⟨bb, j * 2, none⟩ = some (.int .i64 kk) ∧ V.cell? ⟨bm, kk, none⟩ = some (.int .i64 dx) ∧ V.cell? ⟨bs, j, none⟩ = some (.int .i64 o) ∧ V.cell? ⟨bd, o, none⟩ = some (.int .i64 d)) w1' := HS.out _ CK1.out
    refine hK.out _ _ (fun _ => S2) ?_
    clear hK K o0 p0 S1
    obtain ⟨A1, c1, rfl⟩ := own_slice o1
    have O1 := hid o1
    have B1 := hid (HB.out.trans (ch.below hlo (fun x hx e => by have := (World.ownsRow.lt O.out x e).1; omega)))
    have HO1 := hid (show ∀ x, (Value.slice A1 (q.length + 1) c1).ownBlock = some x → x = w.heap.size + 1 ∨ hh ≤ x from (by
     intro y hy
     rcases t1 with e | e
     ·exact HO0.out y (e.symm.trans hy)
     ·have e2 := hy.symm.trans e
      simp only [Option.some.injEq] at e2
      have h3 : (wr.alloc (.cells #[.int .i64 (dx - d)] 3)).drew.heap.size = wr.heap.size + 1 := by show (wr.alloc (.cells #[.int .i64 (dx - d)] 3)).heap.size = _; rw [World.size_alloc]
      omega))
    clear o1 g1 t1 ch S2 HB O CK HO0
    try simp only [Act.put, Last2.s]
    refine Last2.last_one (i := 19) (o := { dst := some 10, op := .assign (.tmp 82), type := _, pos := _, after := _, guard := none }) (by kernel_rfl) rfl rfl (fun K hK => ?_)
    go_simp
    refine hK.out _ _ (fun h => (h (by decide)).elim) ?_
    clear hK K
    try simp only [Act.put, Last2.s]
    refine Last2.last_done (by kernel_rfl) ?_ _
    go_wp2_with fail
    go_roundw
    case rel =>
     have he : (q ++ [dx - d]).length = q.length + 1 := by rw [List.length_append, List.length_singleton]
     refine ⟨j + 1, A1, c1, by omega, by go_num, by rw [HXX.out, he], ?_, ?_, CK1.out, B1.out⟩
     ·rw [HXX.out]
      unfold OwnI
      rw [he, cellsI_append]
      exact O1.out
     ·rw [HXX.out, he]
      exact HO1.out
    case measure => simp [intOf]; omega
   ·obtain rfl : j = N := by omega
    have HB := hid hb
    have O := hid hown
    clear hb hown hob hck
    go_wp2_with fail
    go_ret2
    have e1 : (gapL t).take j = gapL t := by rw [← HGL.out, List.take_length]
    have hO := O.out
    rw [e1] at hO ⊢
    exact ⟨A', c', by rw [HR.out] <;> rfl, by rw [HR.out]; exact hO, HB.out⟩
