/- impl's ReplacedBy. (Written by wip/tools/genirf.py.) -/
import Derived.Test.YtgcjlkdahlfjlaaIrf
namespace Go.Proofs.Ytgcjlkdahlfjlaa.Irf
set_option linter.unusedVariables false
set_option linter.unusedSimpArgs false
open Go.ChangeShapes Go.WideShapes Go.ChangeAt Go.RowKit
open PL Mem Srun Sst IntsP RowA RowC AccP Swhole Pw Px Ipm Ise Iex Irc Ipa Iun Irs To OwnS AskP Res Sout Irp RunF AcctP TreeP LawI LawA LawN Po
set_option maxRecDepth 100000 in
set_option maxHeartbeats 4000000 in
theorem rpbI_any (lo0 n c : Nat) (A : Option Addr) (p : Pg) (f arg fuel : Int) (hn : n ≤ 9223372036854775807) (hl : p.length = n) (hsm : Small p 9223372036854775807) (w : World) (ho : OwnP w lo0 (.slice A n c) p) :
  Calls Try.prog 35 #[.agg #[.slice A n c], .int .i64 f, .int .i64 arg, .int .i64 fuel] w (IntsR (rpbR p f arg fuel) w) := by
 obtain ⟨i0, hi, hz0, hz1, hz2⟩ := info_parts info3
 have hq := Lib.hid (fun W (h : Below w.heap.size w W) => readPanics_any lo0 n c A p f arg fuel hn hl hsm W (ho.below h))
 have hal : ∀ o1 : Obj, Below w.heap.size w (w.alloc o1) := fun o1 => (Below.refl _ _).alloc (Nat.le_refl _) _
 have HALs := Lib.hid (hal (.cells #[.slice A n c] 31))
 have hMl := Nat.le_trans (tds_len (runR p f arg fuel).1.trace).2 (runR_len p f arg fuel)
 have hlens := panR_lens p f arg fuel
 have hpd := runR_pds p f arg fuel
 have hfd := runR_fds p f arg fuel
 have hr : rpbR p f arg fuel = ((mds (runR p f arg fuel).1.trace).pan.map PF.rep, (runR p f arg fuel).2) := by unfold rpbR; rw [panR_runR]
 rw [panR_runR] at hlens
 generalize runR p f arg fuel = r at *
 obtain ⟨⟨rk, rv, t, rs⟩, rb⟩ := r
 dsimp only at hMl hlens hpd hfd hr
 have HR := Lib.hid hr
 have HPD := Lib.hid hpd
 have HFD := Lib.hid hfd
 have HLENS := Lib.hid hlens
 clear ho hsm hal hpd hfd hr hlens
 go_enter Try.func35, Try.ntmps35
 go_wp2_with fail
 refine (hq.out _ HALs.out).mono ?_
 rintro e w2 ⟨g, ga, lo, k, v, s, At, ct, cv, ov, cur, hp, hf, ho, hr, i, rfl, hacc, hrd, hW, hS, hrec, hga, hg, hlo, hho, b2⟩
 dsimp only at hacc hS hrec
 have BB := Lib.hid (HALs.out.trans (b2.mono HALs.out.size))
 have HGA := Lib.hid hga
 have hsw := BB.out.size
 have HACC := Lib.hid (fun V (b : Below w2.heap.size w2 V) => hacc.below b)
 have HW := Lib.hid (fun V (b : Below w2.heap.size w2 V) => hW.below b)
 have HREC := Lib.hid hrec
 obtain ⟨N, hN⟩ : ∃ N, i.forts.length = N := ⟨_, rfl⟩
 have hNl : N ≤ 100000 := by rw [← hN, hS.flen]; exact HLENS.out.pan
 have HE := Lib.hid (show i.forts.map Fo.replacer = (mds t).pan.map PF.rep by rw [hS.forts, List.map_map]; rfl)
 have q2 : w2.cell? ⟨g, 2, none⟩ = some (.slice hf.A N hf.c) := hN ▸ hW.blk.cells 2
 have hmk := fun W => run_make_rowN (P := Try.prog) 38 3 i0 _ Try.underlying38 hi hz0 .i64 .i64 N N (Nat.le_refl _) (by rw [hz2]; omega) (by omega) W
 rw [hz1] at hmk
 have HN := Lib.hid hN
 have hgl := hW.lt
 have q2' : ∀ o, (w2.alloc o).cell? ⟨g, 2, none⟩ = some (.slice hf.A N hf.c) := fun o => hN ▸ (hW.below ((Below.refl _ _).alloc (Nat.le_refl _) _)).blk.cells 2
 clear hacc hrd hW hS hrec hga hho b2 hq hN
 go_wp2_with fail
 go_loopw [34] (fun v wr => ∃ j : Nat, j ≤ N ∧ v = .int .i64 j ∧ wr.ownsRow w2.heap.size 3 1 (.slice (some ⟨w2.heap.size, 0, none⟩) N N) N (cellsI ((i.forts.take j).map Fo.replacer ++ List.replicate (N - j) 0)) ∧ Below w2.heap.size w2 wr) (fun v _ => N - (intOf v).toNat)
 case atStart =>
  refine ⟨0, Nat.zero_le _, rfl, ?_, (Below.refl _ _).alloc (Nat.le_refl _) _⟩
  have := World.ownsRow_lit (base := w2.heap.size) (e := 3) (size := 1) w2 (madeCells #[Value.int .i64 0] (N * 1)) N (Nat.le_refl _) (by unfold maxLen; omega) (size_madeCells _ _)
  rw [Nat.mul_one, toList_madeCells_one] at this
  simpa [cellsI, List.map_replicate] using this
 case round =>
  obtain ⟨j, hj, rfl, hown, hb⟩ := hrel
  clear q2 q2' hmk
  have hsz := hb.size
  by_cases hlt : j < N
  ·obtain ⟨y, hy⟩ : ∃ y, i.forts[j]? = some y := ⟨_, List.getElem?_eq_getElem (by rw [HN.out]; exact hlt)⟩
   have hWr := HW.out wr hb
   obtain ⟨bf, hbf1, hbf2, hA⟩ := fo_form hWr (by rw [HN.out]; omega)
   obtain ⟨Af, cf⟩ := hf
   dsimp only at hA
   subst hA
   obtain ⟨k0, k1, k2, -⟩ := fo_cells hWr hy
   obtain ⟨Au, cu, k3, -⟩ := fo_cells4 hWr hy
   have HNX := Lib.hid (map_set_next (φ := Fo.replacer) hy HN.out)
   have O := Lib.hid hown
   have HB := Lib.hid hb
   clear hWr hown hb hy
   go_upto_region 6 with fail
   change (fun V => Code.wp _ _ _ _ V) _
   refine gen_world (X := fun V => Blk V wr.heap.size 78 #[.int .i64 y.fate, .int .i64 y.replacer, .int .i64 y.replaced, .slice Au y.unwound.length cu] ∧ V.ownsRow w2.heap.size 3 1 (.slice (some ⟨w2.heap.size, 0, none⟩) N N) N (cellsI ((i.forts.take j).map Fo.replacer ++ List.replicate (N - j) 0)) ∧ Below w2.heap.size w2 V) ⟨heap1_0 wr _, own_below (B' := wr.heap.size) O.out ((Below.refl _ _).alloc (Nat.le_refl _) _) (Nat.le_refl _), HB.out.alloc hsz _⟩ ?_
   clear HB O k0 k1 k2 k3
   generalize wr.heap.size = bx at *
   rintro X ⟨eX, oX, bX⟩
   obtain ⟨u0, hu0⟩ := own_cellI oX hlt
   have fz := oX.frozenAt
   have e1 : X.cell? ⟨bx, 1, none⟩ = some (.int .i64 y.replacer) := eX.cells 1
   have OX := Lib.hid oX
   have BX := Lib.hid bX
   clear eX oX bX
   go_wp2_with fail
   go_roundw
   case rel => exact ⟨j + 1, by omega, by go_num, by rw [← HNX.out]; exact own_setI OX.out j y.replacer, BX.out.setCell (p := ⟨w2.heap.size, j, none⟩) (Nat.le_refl _) _⟩
   case measure => simp [intOf]; omega
  ·obtain rfl : j = N := by omega
   have O := Lib.hid hown
   have HB := Lib.hid hb
   clear hown hb
   go_wp2_with fail
   go_ret2
   have e1 : (i.forts.take j).map Fo.replacer = (mds t).pan.map PF.rep := by rw [← HN.out, List.take_length]; exact HE.out
   have e2 : ((mds t).pan.map PF.rep).length = j := by rw [← HE.out, List.length_map]; exact HN.out
   have hO := O.out
   rw [Nat.sub_self, List.replicate_zero, List.append_nil, e1] at hO
   exact ⟨_, _, by rw [HR.out]; dsimp only; rw [e2] <;> rfl, by rw [HR.out]; dsimp only; rw [e2]; unfold OwnI; rw [e2]; exact own_mono hO hsw, BB.out.trans (HB.out.mono hsw)⟩
end Go.Proofs.Ytgcjlkdahlfjlaa.Irf
-- squeezed
