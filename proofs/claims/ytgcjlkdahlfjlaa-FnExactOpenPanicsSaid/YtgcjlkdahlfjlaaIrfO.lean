/- impl's OpenPanics. (Written by wip/tools/genirf.py.) -/
import Derived.Test.YtgcjlkdahlfjlaaIrf
import Derived.Test.YtgcjlkdahlfjlaaPn
namespace Go.Proofs.Ytgcjlkdahlfjlaa.Irf
set_option linter.unusedVariables false
set_option linter.unusedSimpArgs false
open Go.ChangeShapes Go.WideShapes Go.ChangeAt Go.RowKit
open PL Mem Srun Sst IntsP RowA RowC AccP Swhole Pw Px Ipm Ise Iex Irc Ipa Iun Irs To OwnS AskP Res Sout Irp RunF AcctP TreeP LawI LawA LawN Po Pn
set_option maxRecDepth 100000 in
set_option maxHeartbeats 4000000 in
theorem opnI_any (lo0 n c : Nat) (A : Option Addr) (p : Pg) (f arg fuel : Int) (hn : n ≤ 9223372036854775807) (hl : p.length = n) (hsm : Small p 9223372036854775807) (w : World) (ho : OwnP w lo0 (.slice A n c) p) :
  Calls Try.prog 41 #[.agg #[.slice A n c], .int .i64 f, .int .i64 arg, .int .i64 fuel] w (NumR (opnR p f arg fuel) w) := by
 have hq := Lib.hid (fun W (h : Below w.heap.size w W) => readPanics_any lo0 n c A p f arg fuel hn hl hsm W (ho.below h))
 have hal : ∀ o1 : Obj, Below w.heap.size w (w.alloc o1) := fun o1 => (Below.refl _ _).alloc (Nat.le_refl _) _
 have HALs := Lib.hid (hal (.cells #[.slice A n c] 31))
 have hMl := Nat.le_trans (tds_len (runR p f arg fuel).1.trace).2 (runR_len p f arg fuel)
 have hlens := panR_lens p f arg fuel
 have hpd := runR_pds p f arg fuel
 have hfd := runR_fds p f arg fuel
 have hr : opnR p f arg fuel = (((opens (mds (runR p f arg fuel).1.trace).pan : Nat) : Int), (runR p f arg fuel).2) := by unfold opnR; rw [panR_runR]
 rw [panR_runR] at hlens
 generalize runR p f arg fuel = r at *
 obtain ⟨⟨rk, rv, t, rs⟩, rb⟩ := r
 dsimp only at hMl hlens hpd hfd hr
 have HR := Lib.hid hr
 have HPD := Lib.hid hpd
 have HFD := Lib.hid hfd
 have HLENS := Lib.hid hlens
 clear ho hsm hal hpd hfd hr hlens
 go_enter Try.func41, Try.ntmps41
 go_wp2_with fail
 refine (hq.out _ HALs.out).mono ?_
 rintro e w2 ⟨g, ga, lo, k, v, s, At, ct, cv, ov, cur, hp, hf, ho, hr, i, rfl, hacc, hrd, hW, hS, hrec, hga, hg, hlo, hho, b2⟩
 dsimp only at hacc hS hrec
 have BB := Lib.hid (HALs.out.trans (b2.mono HALs.out.size))
 have HGA := Lib.hid hga
 have hsw := BB.out.size
 have HACC := Lib.hid (fun V (b : Below w2.heap.size w2 V) => hacc.below b)
 have HW := Lib.hid (fun V (b : Below w2.heap.size w2 V) => hW.below b)
 have HREC := Lib.hid hrec
 obtain ⟨N, hN⟩ : ∃ N, i.forts.length = N := ⟨_, rfl⟩
 have hNl : N ≤ 100000 := by rw [← hN, hS.flen]; exact HLENS.out.pan
 have q2 : w2.cell? ⟨g, 2, none⟩ = some (.slice hf.A N hf.c) := hN ▸ hW.blk.cells 2
 have HN := Lib.hid hN
 have HFO := Lib.hid hS.forts
 have HPN := Lib.hid (show (mds t).pan.length = N by rw [← hS.flen]; exact hN)
 have hgl := hW.lt
 generalize mds t = sm at *
 have HNX := Lib.hid (fun (j : Nat) (x : PF) (h : sm.pan[j]? = some x) => opens_take h)
 have HLE := Lib.hid (fun (j : Nat) => opens_len (sm.pan.take j))
 clear hacc hrd hW hS hrec hga hho b2 hq hN
 go_wp2_with fail
 go_loopw [12, 28] (fun u v wr => ∃ j : Nat, j ≤ N ∧ v = .int .i64 j ∧ u = .int .i64 (opens (sm.pan.take j) : Nat) ∧ Below w2.heap.size w2 wr) (fun _ v _ => N - (intOf v).toNat)
 case atStart => exact ⟨0, Nat.zero_le _, rfl, rfl, Below.refl _ _⟩
 case round =>
  obtain ⟨j, hj, rfl, rfl, hb⟩ := hrel
  clear q2
  have hsz := hb.size
  by_cases hlt : j < N
  ·obtain ⟨x, hx⟩ : ∃ x, sm.pan[j]? = some x := ⟨_, List.getElem?_eq_getElem (by rw [HPN.out]; exact hlt)⟩
   have hy : i.forts[j]? = some (fo x) := by rw [HFO.out, List.getElem?_map, hx]; rfl
   have hWr := HW.out wr hb
   obtain ⟨bf, hbf1, hbf2, hA⟩ := fo_form hWr (by rw [HN.out]; omega)
   obtain ⟨Af, cf⟩ := hf
   dsimp only at hA
   subst hA
   obtain ⟨k0, k1, k2, -⟩ := fo_cells hWr hy
   obtain ⟨Au, cu, k3, -⟩ := fo_cells4 hWr hy
   have hnx := HNX.out j x hx
   have hle := HLE.out j
   have hlt2 : (sm.pan.take j).length ≤ 100000 := by rw [List.length_take]; omega
   have HB := Lib.hid hb
   dsimp only [fo] at k0 k1 k2 k3
   clear hWr hb hy
   go_upto_region 6 with fail
   change (fun V => Code.wp _ _ _ _ V) _
   refine gen_world (X := fun V => Blk V wr.heap.size 78 #[.int .i64 x.fate, .int .i64 x.rep, .int .i64 x.bef, .slice Au x.by_.length cu] ∧ Below w2.heap.size w2 V) ⟨heap1_0 wr _, HB.out.alloc hsz _⟩ ?_
   clear HB k0 k1 k2 k3
   generalize wr.heap.size = bx at *
   rintro X ⟨eX, bX⟩
   have e0 : X.cell? ⟨bx, 0, none⟩ = some (.int .i64 x.fate) := eX.cells 0
   have BX := Lib.hid bX
   clear eX bX
   by_cases hf0 : x.fate = 0
   ·have HO := Lib.hid (show opens (sm.pan.take (j + 1)) = opens (sm.pan.take j) + 1 by rw [hnx, if_pos hf0])
    rw [hf0] at e0
    clear hnx hf0
    go_wp2_with fail
    go_roundw
    case rel => exact ⟨j + 1, by omega, by go_num, by rw [HO.out]; go_num, BX.out⟩
    case measure => simp [intOf]; omega
   ·have HO := Lib.hid (show opens (sm.pan.take (j + 1)) = opens (sm.pan.take j) by rw [hnx, if_neg hf0])
    have hb0 : (x.fate == 0) = false := by simpa using hf0
    clear hnx hf0
    go_wp2_with fail
    go_roundw
    case rel => exact ⟨j + 1, by omega, by go_num, by rw [HO.out], BX.out⟩
    case measure => simp [intOf]; omega
  ·obtain rfl : j = N := by omega
   have HB := Lib.hid hb
   clear hb
   go_wp2_with fail
   go_ret2
   exact ⟨by rw [HR.out]; dsimp only; rw [← HPN.out, List.take_length] <;> rfl, BB.out.trans (HB.out.mono hsw)⟩
end Go.Proofs.Ytgcjlkdahlfjlaa.Irf
-- squeezed
