import Derived.Test.YtgcjlkdahlfjlaaM31
import Derived.Test.YtgcjlkdahlfjlaaM30
import Derived.Test.YtgcjlkdahlfjlaaDep
set_option linter.all false
namespace Go.Proofs.Ytgcjlkdahlfjlaa.Gpi
open Go.ChangeShapes Go.WideShapes Go.ChangeAt Go.RowKit
open PL Mem Srun Sst IntsP RowA RowC AccP Swhole Pw Px Ipm Ise Iex Irc Ipa Iun Irs To OwnS AskP Res Sout Irp RunF AcctP TreeP LawI LawA LawN DepQ Po Irf Sv Svi
open Lib (hid)
open Last2 (tk)
def gapR (p : Pg) (f arg fuel : Int) : List Int × Bool := (gapL (runR p f arg fuel).1.trace, (runR p f arg fuel).2)
theorem gapR_len (p : Pg) (f arg fuel : Int) : (gapR p f arg fuel).1.length ≤ 100000 := by
 show (gapL (runR p f arg fuel).1.trace).length ≤ 100000
 rw [gapL_len (runR_pds _ _ _ _) (runR_fds _ _ _ _)]
 have := (panR_lens p f arg fuel).rcv
 rwa [panR_runR] at this
theorem mix_set {a b : List Int} {n j : Nat} {x : Int} (ha : a.length = n) (hb : b.length = n) (hx : a[j]? = some x) : (a.take j ++ b.drop j).set j x = a.take (j + 1) ++ b.drop (j + 1) := by
 have hj : j < a.length := (List.getElem?_eq_some_iff.1 hx).1
 have hl : (a.take j).length = j := by rw [List.length_take]; omega
 rw [List.set_append_right _ _ (by omega), hl, Nat.sub_self, List.drop_eq_getElem_cons (by omega), List.set_cons_zero, List.take_add_one, hx, List.append_assoc]
 rfl
theorem mix_at {a b : List Int} {n j : Nat} {y : Int} (ha : a.length = n) (hj : j < n) (hy : b[j]? = some y) : (a.take j ++ b.drop j)[j]? = some y := by
 have hl : (a.take j).length = j := by rw [List.length_take]; omega
 rw [List.getElem?_append_right (by omega), hl, Nat.sub_self, List.getElem?_drop]
 exact hy
set_option maxRecDepth 100000 in
set_option maxHeartbeats 4000000 in
theorem gapI_any (lo0 n c : Nat) (A : Option Addr) (p : Pg) (f arg fuel : Int) (hn : n ≤ 9223372036854775807) (hl : p.length = n) (hsm : Small p 9223372036854775807) (w : World) (ho : OwnP w lo0 (.slice A n c) p) :
  Calls Try.prog 48 #[.agg #[.slice A n c], .int .i64 f, .int .i64 arg, .int .i64 fuel] w (IntsR (gapR p f arg fuel) w) := by
 have hq := hid (fun W (h : Below w.heap.size w W) => readPanics_any lo0 n c A p f arg fuel hn hl hsm W (ho.below h))
 have hal : ∀ o1 : Obj, Below w.heap.size w (w.alloc o1) := fun o1 => (Below.refl _ _).alloc (Nat.le_refl _) _
 have HALs := hid (hal (.cells #[.slice A n c] 31))
 have hMl := Nat.le_trans (tds_len (runR p f arg fuel).1.trace).2 (runR_len p f arg fuel)
 have hlens := panR_lens p f arg fuel
 have hpd := runR_pds p f arg fuel
 have hfd := runR_fds p f arg fuel
 have hpar := tds_pars (runR_or p f arg fuel)
 have hr : gapR p f arg fuel = (gapL (runR p f arg fuel).1.trace, (runR p f arg fuel).2) := by unfold gapR; rfl
 rw [panR_runR] at hlens
 generalize runR p f arg fuel = r at *
 obtain ⟨⟨rk, rv, t, rs⟩, rb⟩ := r
 dsimp only at hMl hlens hpd hfd hpar hr
 have HR := hid hr
 have HPD := hid hpd
 have HFD := hid hfd
 have HPAR := hid hpar
 have HLENS := hid hlens
 clear ho hsm hal hpd hfd hpar hr hlens
 go_enter Try.func48, Try.ntmps48
 go_wp2_with fail
 refine (hq.out _ HALs.out).mono ?_
 rintro e w2 ⟨g, ga, lo, k, v, s, At, ct, cv, ov, cur, hp, hf, ho, hr, i, rfl, hacc, hrd, hW, hS, hrec, hga, hg, hlo, hho, b2⟩
 dsimp only at hacc hS hrec
 have BB := hid (HALs.out.trans (b2.mono HALs.out.size))
 have HGA := hid hga
 have hsw := BB.out.size
 have HACC := hid (fun V (b : Below w2.heap.size w2 V) => hacc.below b)
 have HW := hid (fun V (b : Below w2.heap.size w2 V) => hW.below b)
 have HREC := hid hrec
 obtain ⟨hE, hA⟩ := rec_map HPD.out HFD.out hS hrec
 obtain ⟨N, hN⟩ : ∃ N, i.rec_.length = N := ⟨_, rfl⟩
 obtain ⟨M, hM⟩ : ∃ M, (tds t).calls.length = M := ⟨_, rfl⟩
 obtain ⟨np, hnp⟩ : ∃ np, i.pans.length = np := ⟨_, rfl⟩
 have hL : i.rec_.map (fun q : Int × Int => parOf (tds t).calls q.2) = savL t t.length := by
  unfold savL
  rw [← hrec, List.map_map]
  rfl
 have hNr : (mds t).rcv.length = N := by rw [← hS.rlen]; exact hN
 have hNl : N ≤ 100000 := by rw [← hNr]; exact HLENS.out.rcv
 have hSL : (savL t t.length).length = N := by rw [← hL, List.length_map]; exact hN
 have hGL : (gapL t).length = N := by rw [gapL_len HPD.out HFD.out]; exact hNr
 rw [hM] at hMl
 have HD := hid (depths_any hacc HPAR.out hM hMl)
 have hdl := depL_len (tds t).calls M (by omega)
 have HAT := hid (fun (j : Nat) (hj : j < N) => (show ∃ (kk o cl : Nat) (zf zv dx d rc : Int), i.rec_[j]? = some ((kk : Int), rc) ∧ i.pans[kk]? = some (5, zf, zv, (kk : Int), (cl : Int)) ∧ kk < np ∧ (savL t t.length)[j]? = some (o : Int) ∧ (depL (tds t).calls M)[o]? = some d ∧ (depL (tds t).calls M)[cl]? = some dx ∧ (gapL t)[j]? = some (dx - d) from (by
  obtain ⟨k, o, r, x, d, h1, h2, h3, h4, h5, h6⟩ := gap_at HPD.out HFD.out (j := j) (by rw [hNr]; exact hj)
  rw [hM] at h4 h5
  have hr1 : (i.rec_.map Prod.fst)[j]? = some (k : Int) := by rw [hS.rec_, List.getElem?_map, h1]; rfl
  rw [List.getElem?_map] at hr1
  cases hq : i.rec_[j]? with
  | none => rw [hq] at hr1; cases hr1
  | some q =>
   rw [hq] at hr1
   obtain ⟨q1, q2⟩ := q
   obtain rfl : q1 = (k : Int) := by simpa using hr1
   exact ⟨k, o, x.call, x.f, x.v, _, d, q2, rfl, pan_at hS h3, by rw [← hnp, hS.plen]; exact (List.getElem?_eq_some_iff.1 h3).1, h2, h4, h5, h6⟩)))
 have HSV := hid (fun V (b : Below w2.heap.size w2 V) => savedCalls_any (hW.below b) (hacc.below b) hN hNl hA)
 rw [hL] at HSV
 have HBD := hid (fun (d : Int) (hd : d ∈ depL (tds t).calls M) => depL_bound (tds t).calls M d hd)
 generalize depL (tds t).calls M = Ds at *
 generalize savL t t.length = sv at *
 generalize gapL t = gl at *
 have q0 : w2.cell? ⟨g, 0, none⟩ = some (.pointer (some ⟨ga, 0, none⟩)) := hW.blk.cells 0
 have hgl := hW.lt
 have HN := hid hN
 have HNP := hid hnp
 have HSL := hid hSL
 have HGL := hid hGL
 clear hacc hrd hW hS hrec hga hho b2 hq hE hA hL hNr hN hnp hSL hGL
 go_wp2_with fail
 refine HD.out.mono ?_
 rintro e w3 ⟨Ad, cd, rfl, od, bd⟩
 have OD := hid (show w3.ownsRow w2.heap.size 3 1 (.slice Ad M cd) M (cellsI Ds) from (by have := od; unfold OwnI at this; rwa [hdl] at this))
 have BD := hid bd
 have hs3 := bd.size
 have HS3 := hid (HSV.out w3 bd)
 clear q0 od bd HD HSV
 go_wp2_with fail
 refine HS3.out.mono ?_
 rintro e w4 ⟨A4, c4, rfl, o4, b4⟩
 have O4 := hid (show w4.ownsRow w3.heap.size 3 1 (.slice A4 N c4) N (cellsI sv) from (by have := o4; unfold OwnI at this; rwa [HSL.out] at this))
 have B4 := hid b4
 have hs4 := b4.size
 clear o4 b4 HS3
 go_wp2_with fail
 go_loopw [34] (fun v wr => ∃ j : Nat, j ≤ N ∧ v = .int .i64 j ∧ wr.ownsRow w3.heap.size 3 1 (.slice A4 N c4) N (cellsI (gl.take j ++ sv.drop j)) ∧ Below w3.heap.size w3 wr) (fun v _ => N - (intOf v).toNat)
 case atStart => exact ⟨0, Nat.zero_le _, rfl, by simpa using O4.out, B4.out⟩
 case round =>
  obtain ⟨j, hj, rfl, hown, hb⟩ := hrel
  clear O4 B4
  have hsz := hb.size
  by_cases hlt : j < N
  ·obtain ⟨kk, o, cl, zf, zv, dx, d, rc, hq, hz, hkn, hso, hdo, hdx, hgj⟩ := HAT.out j hlt
   have hol : o < M := by have := (List.getElem?_eq_some_iff.1 hdo).1; omega
   have hcl : cl < M := by have := (List.getElem?_eq_some_iff.1 hdx).1; omega
   have hb1 := HBD.out d (List.mem_of_getElem? hdo)
   have hb2 := HBD.out dx (List.mem_of_getElem? hdx)
   have hB2 : Below w2.heap.size w2 wr := BD.out.trans (hb.mono hs3)
   have hWr := HW.out wr hB2
   obtain ⟨bp, hbp, hA⟩ := pa_form hWr (by rw [HNP.out]; omega)
   obtain ⟨Ap, cp⟩ := hp
   dsimp only at hA
   subst hA
   obtain ⟨br, hbr, hA⟩ := rc_form hWr (by rw [HN.out]; omega)
   obtain ⟨Ar, cr⟩ := hr
   dsimp only at hA
   subst hA
   obtain ⟨bd, hbd⟩ : ∃ bd, Ad = some ⟨bd, 0, none⟩ := by
    rcases own_form OD.out with ⟨h0, _⟩ | ⟨_, bd, cap, hv, _⟩
    ·omega
    ·simp only [Value.slice.injEq] at hv
     exact ⟨bd, hv.1⟩
   subst hbd
   obtain ⟨b4, hb4⟩ : ∃ b4, A4 = some ⟨b4, 0, none⟩ := by
    rcases own_form hown with ⟨h0, _⟩ | ⟨_, b4, cap, hv, _⟩
    ·omega
    ·simp only [Value.slice.injEq] at hv
     exact ⟨b4, hv.1⟩
   subst hb4
   have hb4l := (World.ownsRow.lt hown b4 rfl)
   have hbdl := (World.ownsRow.lt OD.out bd rfl).2
   have hwr : IntKind.i64.wrap (dx - d) = dx - d := IntWalk.i64_in _ (by omega)
   have HS7 := hid (fun V (b : Below wr.heap.size wr V) => (show (fun V : World => V.cell? ⟨g, 1, none⟩ = some (.slice (some ⟨bp, 0, none⟩) np cp) ∧ V.cell? ⟨g, 4, none⟩ = some (.slice (some ⟨br, 0, none⟩) N cr) ∧ V.cell? ⟨br, j * 2, none⟩ = some (.int .i64 kk) ∧ V.cell? ⟨bp, kk * 5, none⟩ = some (.int .i64 5) ∧ V.cell? ⟨bp, kk * 5 + 1, none⟩ = some (.int .i64 zf) ∧ V.cell? ⟨bp, kk * 5 + 2, none⟩ = some (.int .i64 zv) ∧ V.cell? ⟨bp, kk * 5 + 3, none⟩ = some (.int .i64 kk) ∧ V.cell? ⟨bp, kk * 5 + 4, none⟩ = some (.int .i64 cl)) V from (by
    have hV := HW.out V (hB2.trans (b.mono (by omega)))
    obtain ⟨z0, z1, z2, z3, z4⟩ := row_z hV.pans rfl hz
    exact ⟨HNP.out ▸ hV.blk.cells 1, HN.out ▸ hV.blk.cells 4, row_at q2_len hV.rec_ hq (o := 0) (by decide) rfl, z0, z1, z2, z3, z4⟩)))
   have gj : wr.cell? ⟨b4, j, none⟩ = some (.int .i64 o) := (hown.cellAt j (by omega)).trans (cellsI_at _ _ _ (mix_at HGL.out hlt hso))
   have HNX := hid (mix_set HGL.out HSL.out hgj)
   have HDO := hid (fun V (b : Below w3.heap.size w3 V) => (show V.cell? ⟨bd, o, none⟩ = some (.int .i64 d) ∧ V.cell? ⟨bd, cl, none⟩ = some (.int .i64 dx) from ⟨((own_below OD.out b (Nat.le_refl _)).cellAt o (by omega)).trans (cellsI_at _ _ _ hdo), ((own_below OD.out b (Nat.le_refl _)).cellAt cl (by omega)).trans (cellsI_at _ _ _ hdx)⟩))
   generalize gl.take j ++ sv.drop j = L at *
   have O := hid hown
   have HB := hid hb
   clear hWr hown hb hq hz hso hdo hdx hgj hB2
   go_upto_region 7 with fail
   have S0 : (fun V : World => V.cell? ⟨g, 1, none⟩ = some (.slice (some ⟨bp, 0, none⟩) np cp) ∧ V.cell? ⟨g, 4, none⟩ = some (.slice (some ⟨br, 0, none⟩) N cr) ∧ V.cell? ⟨br, j * 2, none⟩ = some (.int .i64 kk) ∧ V.cell? ⟨bp, kk * 5, none⟩ = some (.int .i64 5) ∧ V.cell? ⟨bp, kk * 5 + 1, none⟩ = some (.int .i64 zf) ∧ V.cell? ⟨bp, kk * 5 + 2, none⟩ = some (.int .i64 zv) ∧ V.cell? ⟨bp, kk * 5 + 3, none⟩ = some (.int .i64 kk) ∧ V.cell? ⟨bp, kk * 5 + 4, none⟩ = some (.int .i64 cl)) wr.drew := HS7.out _ (Below.drew (Below.refl _ _))
   refine Last2.region_last [15] (fun V : World => V.cell? ⟨g, 1, none⟩ = some (.slice (some ⟨bp, 0, none⟩) np cp) ∧ V.cell? ⟨g, 4, none⟩ = some (.slice (some ⟨br, 0, none⟩) N cr) ∧ V.cell? ⟨br, j * 2, none⟩ = some (.int .i64 kk) ∧ V.cell? ⟨bp, kk * 5, none⟩ = some (.int .i64 5) ∧ V.cell? ⟨bp, kk * 5 + 1, none⟩ = some (.int .i64 zf) ∧ V.cell? ⟨bp, kk * 5 + 2, none⟩ = some (.int .i64 zv) ∧ V.cell? ⟨bp, kk * 5 + 3, none⟩ = some (.int .i64 kk) ∧ V.cell? ⟨bp, kk * 5 + 4, none⟩ = some (.int .i64 cl)) (by kernel_rfl) ?_
   refine tk 0 39 (.pointer (some ⟨g, 0, none⟩)) S0 ?_
   simp only [Act.put, Last2.s]
   refine tk 1 40 (.pointer (some ⟨g, 0, none⟩)) S0 ?_
   simp only [Act.put, Last2.s]
   refine tk 2 41 (.pointer (some ⟨g, 1, none⟩)) S0 ?_
   simp only [Act.put, Last2.s]
   refine tk 3 42 (.slice (some ⟨bp, 0, none⟩) np cp) S0 ?_
   simp only [Act.put, Last2.s]
   refine tk 4 43 (.pointer (some ⟨g, 0, none⟩)) S0 ?_
   simp only [Act.put, Last2.s]
   refine tk 5 44 (.pointer (some ⟨g, 0, none⟩)) S0 ?_
   simp only [Act.put, Last2.s]
   refine tk 6 45 (.pointer (some ⟨g, 4, none⟩)) S0 ?_
   simp only [Act.put, Last2.s]
   refine tk 7 46 (.slice (some ⟨br, 0, none⟩) N cr) S0 ?_
   simp only [Act.put, Last2.s]
   refine tk 8 47 (.int .i64 j) S0 ?_
   simp only [Act.put, Last2.s]
   refine tk 9 48 (.pointer (some ⟨br, j * 2, none⟩)) S0 ?_
   simp only [Act.put, Last2.s]
   refine tk 10 49 (.pointer (some ⟨br, j * 2, none⟩)) S0 ?_
   simp only [Act.put, Last2.s]
   refine tk 11 50 (.int .i64 kk) S0 ?_
   simp only [Act.put, Last2.s]
   refine tk 12 51 (.pointer (some ⟨bp, kk * 5, none⟩)) S0 ?_
   simp only [Act.put, Last2.s]
   refine tk 13 52 (.agg #[.int .i64 5, .int .i64 zf, .int .i64 zv, .int .i64 kk, .int .i64 cl]) S0 ?_
   simp only [Act.put, Last2.s]
   refine Last2.last_one (i := 14) (o := { dst := some 16, op := .alloc 76, type := _, pos := _, after := _, guard := none }) (by kernel_rfl) rfl rfl (fun K hK => ?_)
   go_simp
   have bal : Below wr.heap.size wr (wr.alloc (.cells #[.int .i64 0, .int .i64 0, .int .i64 0, .int .i64 0, .int .i64 0] 76)).drew := Below.drew ((Below.refl _ _).alloc (Nat.le_refl _) _)
   have S1 : (fun V : World => V.cell? ⟨g, 1, none⟩ = some (.slice (some ⟨bp, 0, none⟩) np cp) ∧ V.cell? ⟨g, 4, none⟩ = some (.slice (some ⟨br, 0, none⟩) N cr) ∧ V.cell? ⟨br, j * 2, none⟩ = some (.int .i64 kk) ∧ V.cell? ⟨bp, kk * 5, none⟩ = some (.int .i64 5) ∧ V.cell? ⟨bp, kk * 5 + 1, none⟩ = some (.int .i64 zf) ∧ V.cell? ⟨bp, kk * 5 + 2, none⟩ = some (.int .i64 zv) ∧ V.cell? ⟨bp, kk * 5 + 3, none⟩ = some (.int .i64 kk) ∧ V.cell? ⟨bp, kk * 5 + 4, none⟩ = some (.int .i64 cl)) (wr.alloc (.cells #[.int .i64 0, .int .i64 0, .int .i64 0, .int .i64 0, .int .i64 0] 76)).drew := HS7.out _ bal
   refine hK.out _ _ (fun _ => S1) ?_
   clear hK K S0 S1
   have HBX := hid (show Blk (wr.alloc (.cells #[.int .i64 0, .int .i64 0, .int .i64 0, .int .i64 0, .int .i64 0] 76)).drew wr.heap.size 76 #[.int .i64 0, .int .i64 0, .int .i64 0, .int .i64 0, .int .i64 0] from heap1_0 wr _)
   have BAL := hid bal
   clear bal
   generalize (wr.alloc (.cells #[.int .i64 0, .int .i64 0, .int .i64 0, .int .i64 0, .int .i64 0] 76)).drew = V1 at *
   have hbc := HBX.out.cells
   have hbf := HBX.out.frozen
   try simp only [Act.put, Last2.s]
   refine Last2.last_one (i := 15) (o := { dst := none, op := .store 76 (.tmp 16) (.tmp 52), type := _, pos := _, after := _, guard := none }) (by kernel_rfl) rfl rfl (fun K hK => ?_)
   go_simp
   refine hK.out _ _ (fun h => (h (by decide)).elim) ?_
   clear hK K
   refine Last2.last_done (by kernel_rfl) ?_ _
   have hbx4 : b4 ≠ wr.heap.size := by omega
   change (fun V => Exit.then _ _ Exit.normal _ V) _
   refine gen_world (X := fun V => Blk V wr.heap.size 76 (zarr (5, zf, zv, (kk : Int), (cl : Int))) ∧ V.ownsRow w3.heap.size 3 1 (.slice (some ⟨b4, 0, none⟩) N c4) N (cellsI L) ∧ Below w3.heap.size w3 V) ⟨Blk.set5 HBX.out (5, zf, zv, (kk : Int), (cl : Int)), own_chg (own_below O.out BAL.out (Nat.le_refl _)) (put5_chg V1 wr.heap.size 0 (5, zf, zv, (kk : Int), (cl : Int))) (fun x hx e => by simp only [Value.ownBlock, Option.some.injEq] at hx; omega), (HB.out.trans (BAL.out.mono hsz)).trans ((put5_chg V1 wr.heap.size 0 (5, zf, zv, (kk : Int), (cl : Int))).below (Nat.le_trans hsz BAL.out.size) (fun x hx e => by omega))⟩ ?_
   clear HBX BAL hbc hbf O HB HS7 gj
   generalize wr.heap.size = bx at *
   rintro V ⟨eX, oX, bX⟩
   obtain ⟨u0, hu0⟩ := own_cellI oX hlt
   have fz := oX.frozenAt
   obtain ⟨d0, d1⟩ := HDO.out V bX
   have S0 : (fun V : World => V.cell? ⟨bx, 4, none⟩ = some (.int .i64 cl) ∧ V.cell? ⟨bd, cl, none⟩ = some (.int .i64 dx) ∧ V.cell? ⟨bd, o, none⟩ = some (.int .i64 d)) V.drew := ⟨eX.cells 4, d1, d0⟩
   have OX := hid oX
   have BX := hid bX
   clear eX oX bX d0 d1
   go_wp2_with fail
   refine Last2.region_last [13] (fun V : World => V.cell? ⟨bx, 4, none⟩ = some (.int .i64 cl) ∧ V.cell? ⟨bd, cl, none⟩ = some (.int .i64 dx) ∧ V.cell? ⟨bd, o, none⟩ = some (.int .i64 d)) (by kernel_rfl) ?_
   refine tk 0 53 (.slice (some ⟨b4, 0, none⟩) N c4) S0 ?_
   simp only [Act.put, Last2.s]
   refine tk 1 54 (.int .i64 j) S0 ?_
   simp only [Act.put, Last2.s]
   refine tk 2 55 (.slice (some ⟨bd, 0, none⟩) M cd) S0 ?_
   simp only [Act.put, Last2.s]
   refine tk 3 56 (.pointer (some ⟨bx, 4, none⟩)) S0 ?_
   simp only [Act.put, Last2.s]
   refine tk 4 57 (.int .i64 cl) S0 ?_
   simp only [Act.put, Last2.s]
   refine tk 5 58 (.pointer (some ⟨bd, cl, none⟩)) S0 ?_
   simp only [Act.put, Last2.s]
   refine tk 6 59 (.int .i64 dx) S0 ?_
   simp only [Act.put, Last2.s]
   refine tk 7 60 (.slice (some ⟨bd, 0, none⟩) M cd) S0 ?_
   simp only [Act.put, Last2.s]
   refine tk 8 61 (.int .i64 o) S0 ?_
   simp only [Act.put, Last2.s]
   refine tk 9 62 (.pointer (some ⟨bd, o, none⟩)) S0 ?_
   simp only [Act.put, Last2.s]
   refine tk 10 63 (.int .i64 d) S0 ?_
   simp only [Act.put, Last2.s]
   refine tk 11 64 (.int .i64 (dx - d)) S0 ?_
   simp only [Act.put, Last2.s]
   refine tk 12 65 (.pointer (some ⟨b4, j, none⟩)) S0 ?_
   simp only [Act.put, Last2.s]
   refine Last2.last_one (i := 13) (o := { dst := none, op := .store 3 (.tmp 65) (.tmp 64), type := _, pos := _, after := _, guard := none }) (by kernel_rfl) rfl rfl (fun K hK => ?_)
   go_simp
   refine hK.out _ _ (fun h => (h (by decide)).elim) ?_
   clear hK K
   refine Last2.last_done (by kernel_rfl) ?_ _
   clear S0 hu0 fz
   have OY := hid (own_setI OX.out j (dx - d))
   have OZ := hid (own_below (B' := (V.setCell ⟨b4, j, none⟩ (.int .i64 (dx - d))).heap.size) OY.out (Below.drew (Below.refl _ _)) (Nat.le_refl _))
   have BZ := hid (Below.drew (BX.out.setCell (p := ⟨b4, j, none⟩) (show w3.heap.size ≤ b4 from hb4l.1) (.int .i64 (dx - d))))
   clear OX BX OY
   go_wp2_with fail
   go_roundw
   case rel => exact ⟨j + 1, by omega, by go_num, by rw [← HNX.out]; exact OZ.out, BZ.out⟩
   case measure => simp [intOf]; omega
  ·obtain rfl : j = N := by omega
   have O := hid hown
   have HB := hid hb
   clear hown hb
   go_wp2_with fail
   go_ret2
   have hO := O.out
   rw [show gl.take j = gl from by rw [← HGL.out, List.take_length], show sv.drop j = [] from by rw [← HSL.out, List.drop_length], List.append_nil] at hO
   exact ⟨_, _, by rw [HR.out]; dsimp only; rw [HGL.out] <;> rfl, by rw [HR.out]; dsimp only; unfold OwnI; rw [HGL.out]; exact own_mono hO (by omega), BB.out.trans (BD.out.mono hsw |>.trans (HB.out.mono (by omega)))⟩
