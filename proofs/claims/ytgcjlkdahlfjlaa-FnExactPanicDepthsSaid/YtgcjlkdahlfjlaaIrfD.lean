/- impl's PanicDepths. (Written by wip/tools/genirf.py.) -/
import Derived.Test.YtgcjlkdahlfjlaaIrf
import Derived.Test.YtgcjlkdahlfjlaaM23
import Derived.Test.YtgcjlkdahlfjlaaDep
namespace Go.Proofs.Ytgcjlkdahlfjlaa.Irf
set_option linter.unusedVariables false
set_option linter.unusedSimpArgs false
open Go.ChangeShapes Go.WideShapes Go.ChangeAt Go.RowKit
open PL Mem Srun Sst IntsP RowA RowC AccP Swhole Pw Px Ipm Ise Iex Irc Ipa Iun Irs To OwnS AskP Res Sout Irp RunF AcctP TreeP LawI LawA LawN DepQ Po
set_option maxRecDepth 100000 in
set_option maxHeartbeats 4000000 in
theorem pdpI_any (lo0 n c : Nat) (A : Option Addr) (p : Pg) (f arg fuel : Int) (hn : n ≤ 9223372036854775807) (hl : p.length = n) (hsm : Small p 9223372036854775807) (w : World) (ho : OwnP w lo0 (.slice A n c) p) :
  Calls Try.prog 39 #[.agg #[.slice A n c], .int .i64 f, .int .i64 arg, .int .i64 fuel] w (IntsR (pdpR p f arg fuel) w) := by
 obtain ⟨i0, hi, hz0, hz1, hz2⟩ := info_parts info3
 have hq := Lib.hid (fun W (h : Below w.heap.size w W) => readPanics_any lo0 n c A p f arg fuel hn hl hsm W (ho.below h))
 have hal : ∀ o1 : Obj, Below w.heap.size w (w.alloc o1) := fun o1 => (Below.refl _ _).alloc (Nat.le_refl _) _
 have HALs := Lib.hid (hal (.cells #[.slice A n c] 31))
 have hMl := Nat.le_trans (tds_len (runR p f arg fuel).1.trace).2 (runR_len p f arg fuel)
 have hlens := panR_lens p f arg fuel
 have hpd := runR_pds p f arg fuel
 have hfd := runR_fds p f arg fuel
 have hpar := tds_pars (runR_or p f arg fuel)
 have hr : pdpR p f arg fuel = ((mds (runR p f arg fuel).1.trace).pan.map pdep, (runR p f arg fuel).2) := by unfold pdpR; rw [panR_runR]
 rw [panR_runR] at hlens
 generalize runR p f arg fuel = r at *
 obtain ⟨⟨rk, rv, t, rs⟩, rb⟩ := r
 dsimp only at hMl hlens hpd hfd hpar hr
 have HR := Lib.hid hr
 have HPD := Lib.hid hpd
 have HFD := Lib.hid hfd
 have HPAR := Lib.hid hpar
 have HLENS := Lib.hid hlens
 clear ho hsm hal hpd hfd hpar hr hlens
 go_enter Try.func39, Try.ntmps39
 go_wp2_with fail
 refine (hq.out _ HALs.out).mono ?_
 rintro e w2 ⟨g, ga, lo, k, v, s, At, ct, cv, ov, cur, hp, hf, ho, hr, i, rfl, hacc, hrd, hW, hS, hrec, hga, hg, hlo, hho, b2⟩
 dsimp only at hacc hS hrec
 have BB := Lib.hid (HALs.out.trans (b2.mono HALs.out.size))
 have HGA := Lib.hid hga
 have hsw := BB.out.size
 have HACC := Lib.hid (fun V (b : Below w2.heap.size w2 V) => hacc.below b)
 have HW := Lib.hid (fun V (b : Below w2.heap.size w2 V) => hW.below b)
 have HREC := Lib.hid hrec
 obtain ⟨N, hN⟩ : ∃ N, i.pans.length = N := ⟨_, rfl⟩
 obtain ⟨M, hM⟩ : ∃ M, (tds t).calls.length = M := ⟨_, rfl⟩
 have hNl : N ≤ 100000 := by rw [← hN, hS.plen]; exact HLENS.out.pan
 have hdo := dep_all HPD.out t.length (Nat.le_refl _)
 rw [List.take_length] at hdo
 rw [hM] at hdo hMl
 have hdl := depL_len (tds t).calls M (by omega)
 have HD := Lib.hid (depths_any hacc HPAR.out hM hMl)
 have q0 : w2.cell? ⟨g, 0, none⟩ = some (.pointer (some ⟨ga, 0, none⟩)) := hW.blk.cells 0
 generalize depL (tds t).calls M = D at *
 have HE := Lib.hid (pans_map hS (fun z => D.getD z.2.2.2.2.toNat 0) pdep (fun k x hx => by
  show D.getD ((x.call : Nat) : Int).toNat 0 = _
  rw [Int.toNat_natCast, List.getD_eq_getElem?_getD, hdo x (List.mem_of_getElem? hx)]
  rfl))
 have HAT := Lib.hid (fun (j : Nat) (hj : j < N) => (show ∃ (f v : Int) (c : Nat), i.pans[j]? = some (5, f, v, (j : Int), (c : Int)) ∧ c < M from (by
  obtain ⟨x, hx⟩ : ∃ x, (mds t).pan[j]? = some x := ⟨_, List.getElem?_eq_getElem (by rw [← hS.plen, hN]; exact hj)⟩
  refine ⟨x.f, x.v, x.call, pan_at hS hx, ?_⟩
  have := (List.getElem?_eq_some_iff.1 (hdo x (List.mem_of_getElem? hx))).1
  omega)))
 have hmk := fun W => run_make_rowN (P := Try.prog) 38 3 i0 _ Try.underlying38 hi hz0 .i64 .i64 N N (Nat.le_refl _) (by rw [hz2]; omega) (by omega) W
 rw [hz1] at hmk
 have HN := Lib.hid hN
 have hgl := hW.lt
 clear hacc hrd hW hS hrec hga hho b2 hq hN hdo
 go_wp2_with fail
 refine HD.out.mono ?_
 rintro e w3 ⟨Ad, cd, rfl, od, bd⟩
 have q1 : w3.cell? ⟨g, 1, none⟩ = some (.slice hp.A N hp.c) := HN.out ▸ (HW.out w3 bd).blk.cells 1
 have q1' : ∀ o, (w3.alloc o).cell? ⟨g, 1, none⟩ = some (.slice hp.A N hp.c) := fun o => HN.out ▸ (HW.out _ (bd.alloc bd.size o)).blk.cells 1
 have OD := Lib.hid (show w3.ownsRow w2.heap.size 3 1 (.slice Ad M cd) M (cellsI D) from (by have := od; unfold OwnI at this; rwa [hdl] at this))
 have BD := Lib.hid bd
 have hs3 := bd.size
 have hgl3 : g < w3.heap.size := by omega
 clear q0 od bd HD
 go_wp2_with fail
 go_loopw [40] (fun v wr => ∃ j : Nat, j ≤ N ∧ v = .int .i64 j ∧ wr.ownsRow w3.heap.size 3 1 (.slice (some ⟨w3.heap.size, 0, none⟩) N N) N (cellsI ((i.pans.take j).map (fun z => D.getD z.2.2.2.2.toNat 0) ++ List.replicate (N - j) 0)) ∧ Below w3.heap.size w3 wr) (fun v _ => N - (intOf v).toNat)
 case atStart =>
  refine ⟨0, Nat.zero_le _, rfl, ?_, (Below.refl _ _).alloc (Nat.le_refl _) _⟩
  have := World.ownsRow_lit (base := w3.heap.size) (e := 3) (size := 1) w3 (madeCells #[Value.int .i64 0] (N * 1)) N (Nat.le_refl _) (by unfold maxLen; omega) (size_madeCells _ _)
  rw [Nat.mul_one, toList_madeCells_one] at this
  simpa [cellsI, List.map_replicate] using this
 case round =>
  obtain ⟨j, hj, rfl, hown, hb⟩ := hrel
  clear q1 q1' hmk
  have hsz := hb.size
  by_cases hlt : j < N
  ·obtain ⟨zf, zv, cl, hz, hcl⟩ := HAT.out j hlt
   obtain ⟨d, hd⟩ : ∃ d, D[cl]? = some d := ⟨_, List.getElem?_eq_getElem (by omega)⟩
   have hWr := HW.out wr (BD.out.trans (hb.mono hs3))
   obtain ⟨bp, hbp, hA⟩ := pa_form hWr (by rw [HN.out]; omega)
   obtain ⟨Ap, cp⟩ := hp
   dsimp only at hA
   subst hA
   obtain ⟨k0, k1, k2, k3, k4⟩ := row_z hWr.pans rfl hz
   dsimp only at k0 k1 k2 k3 k4
   have HNX := Lib.hid (show ((i.pans.take j).map (fun z : Rz => D.getD z.2.2.2.2.toNat 0) ++ List.replicate (N - j) 0).set j d = (i.pans.take (j + 1)).map (fun z : Rz => D.getD z.2.2.2.2.toNat 0) ++ List.replicate (N - (j + 1)) 0 from (by have := map_set_next (φ := fun z : Rz => D.getD z.2.2.2.2.toNat 0) hz HN.out; dsimp only at this; rw [Int.toNat_natCast, List.getD_eq_getElem?_getD, hd] at this; exact this))
   have O := Lib.hid hown
   have HB := Lib.hid hb
   have HDD := Lib.hid hd
   clear hWr hown hb hz hd
   go_upto_region 7 with fail
   change (fun V => Code.wp _ _ _ _ V) _
   refine gen_world (X := fun V => Blk V wr.heap.size 76 #[.int .i64 5, .int .i64 zf, .int .i64 zv, .int .i64 j, .int .i64 cl] ∧ V.ownsRow w3.heap.size 3 1 (.slice (some ⟨w3.heap.size, 0, none⟩) N N) N (cellsI ((i.pans.take j).map (fun z => D.getD z.2.2.2.2.toNat 0) ++ List.replicate (N - j) 0)) ∧ Below w3.heap.size w3 V) ⟨heap1_0 wr _, own_below (B' := wr.heap.size) O.out ((Below.refl _ _).alloc (Nat.le_refl _) _) (Nat.le_refl _), HB.out.alloc hsz _⟩ ?_
   clear HB O k0 k1 k2 k3 k4
   generalize wr.heap.size = bx at *
   rintro X ⟨eX, oX, bX⟩
   obtain ⟨u0, hu0⟩ := own_cellI oX hlt
   have fz := oX.frozenAt
   have e4 : X.cell? ⟨bx, 4, none⟩ = some (.int .i64 cl) := eX.cells 4
   have odX := own_below OD.out bX (Nat.le_refl _)
   obtain ⟨bd, hbd⟩ : ∃ bd, Ad = some ⟨bd, 0, none⟩ := by
    rcases own_form odX with ⟨h0, _⟩ | ⟨_, bd, cap, hv, _⟩
    ·omega
    ·simp only [Value.slice.injEq] at hv
     exact ⟨bd, hv.1⟩
   subst hbd
   have kd : X.cell? ⟨bd, cl, none⟩ = some (.int .i64 d) := (odX.cellAt cl (by omega)).trans (cellsI_at _ _ _ HDD.out)
   have OX := Lib.hid oX
   have BX := Lib.hid bX
   clear eX oX bX odX
   go_wp2_with fail
   go_roundw
   case rel => exact ⟨j + 1, by omega, by go_num, by rw [← HNX.out]; exact own_setI OX.out j d, BX.out.setCell (p := ⟨w3.heap.size, j, none⟩) (Nat.le_refl _) _⟩
   case measure => simp [intOf]; omega
  ·obtain rfl : j = N := by omega
   have O := Lib.hid hown
   have HB := Lib.hid hb
   clear hown hb
   go_wp2_with fail
   go_ret2
   have e1 : (i.pans.take j).map (fun z => D.getD z.2.2.2.2.toNat 0) = (mds t).pan.map pdep := by rw [← HN.out, List.take_length]; exact HE.out
   have e2 : ((mds t).pan.map pdep).length = j := by rw [← HE.out, List.length_map]; exact HN.out
   have hO := O.out
   rw [Nat.sub_self, List.replicate_zero, List.append_nil, e1] at hO
   exact ⟨_, _, by rw [HR.out]; dsimp only; rw [e2] <;> rfl, by rw [HR.out]; dsimp only; rw [e2]; unfold OwnI; rw [e2]; exact own_mono hO (by omega), BB.out.trans (BD.out.mono hsw |>.trans (HB.out.mono (by omega)))⟩
end Go.Proofs.Ytgcjlkdahlfjlaa.Irf
-- squeezed
