/- impl's UnwoundBy. (Written by wip/tools/genirg.py.) -/
import Derived.Test.YtgcjlkdahlfjlaaIrf
import Derived.Test.YtgcjlkdahlfjlaaPu
namespace Go.Proofs.Ytgcjlkdahlfjlaa.Irh
set_option linter.unusedVariables false
set_option linter.unusedSimpArgs false
open Go.ChangeShapes Go.WideShapes Go.ChangeAt Go.RowKit
open PL Mem Srun Sst IntsP RowA RowC AccP Swhole Pw Px Ipm Ise Iex Irc Ipa Iun Irs To OwnS AskP Res Sout Irp RunF AcctP TreeP LawI LawA LawN Po Pu Irf

set_option maxRecDepth 100000 in
set_option maxHeartbeats 4000000 in
theorem unbI_any (lo0 n c : Nat) (A : Option Addr) (p : Pg) (f arg fuel kk : Int) (hn : n ≤ 9223372036854775807) (hl : p.length = n) (hsm : Small p 9223372036854775807) (w : World) (ho : OwnP w lo0 (.slice A n c) p) :
  Calls Try.prog 25 #[.agg #[.slice A n c], .int .i64 f, .int .i64 arg, .int .i64 fuel, .int .i64 kk] w (IntsR (unbR p f arg fuel kk) w) := by
 have hq := Lib.hid (fun W (h : Below w.heap.size w W) => readPanics_any lo0 n c A p f arg fuel hn hl hsm W (ho.below h))
 have hal : ∀ o1 : Obj, Below w.heap.size w (w.alloc o1) := fun o1 => (Below.refl _ _).alloc (Nat.le_refl _) _
 have HALs := Lib.hid (hal (.cells #[.slice A n c] 31))
 have hMl := Nat.le_trans (tds_len (runR p f arg fuel).1.trace).2 (runR_len p f arg fuel)
 have hlens := panR_lens p f arg fuel
 have hpd := runR_pds p f arg fuel
 have hfd := runR_fds p f arg fuel
 have hr : unbR p f arg fuel kk = (if (runR p f arg fuel).2 then byOf (mds (runR p f arg fuel).1.trace).pan kk else ([], false)) := by unfold unbR; rw [panR_runR]
 rw [panR_runR] at hlens
 generalize runR p f arg fuel = r at *
 obtain ⟨⟨rk, rv, t, rs⟩, rb⟩ := r
 dsimp only at hMl hlens hpd hfd hr
 have HR := Lib.hid hr
 have HPD := Lib.hid hpd
 have HFD := Lib.hid hfd
 have HLENS := Lib.hid hlens
 clear ho hsm hal hpd hfd hr hlens
 go_enter Try.func25, Try.ntmps25
 go_wp2_with fail
 refine (hq.out _ HALs.out).mono ?_
 rintro e w2 ⟨g, ga, lo, k, v, s, At, ct, cv, ov, cur, hp, hf, ho, hr, i, rfl, hacc, hrd, hW, hS, hrec, hga, hg, hlo, hho, b2⟩
 dsimp only at hacc hS hrec
 have BB := Lib.hid (HALs.out.trans (b2.mono HALs.out.size))
 have HGA := Lib.hid hga
 have hsw := BB.out.size
 have HACC := Lib.hid (fun V (b : Below w2.heap.size w2 V) => hacc.below b)
 have HW := Lib.hid (fun V (b : Below w2.heap.size w2 V) => hW.below b)
 have HREC := Lib.hid hrec
 obtain ⟨N, hN⟩ : ∃ N, i.pans.length = N := ⟨_, rfl⟩
 have hPN : (mds t).pan.length = N := by rw [← hS.plen]; exact hN
 have hFN : i.forts.length = N := by rw [hS.flen]; exact hPN
 have hNl : N ≤ 100000 := by rw [← hPN]; exact HLENS.out.pan
 have q1 : w2.cell? ⟨g, 1, none⟩ = some (.slice hp.A N hp.c) := hN ▸ hW.blk.cells 1
 have q2 : w2.cell? ⟨g, 2, none⟩ = some (.slice hf.A N hf.c) := hFN ▸ hW.blk.cells 2
 have hbad : ∀ (o : Obj), unbR p f arg fuel kk = ([], false) → ∃ A' c', Ending.returned (.tuple #[.slice (some ⟨w2.heap.size, 0, none⟩) 0 0, .bool false]) = .returned (.tuple #[.slice A' (unbR p f arg fuel kk).1.length c', .bool (unbR p f arg fuel kk).2]) ∧ OwnI (w2.alloc (.cells #[] 3)) w.heap.size (.slice A' (unbR p f arg fuel kk).1.length c') (unbR p f arg fuel kk).1 ∧ Below w.heap.size w (w2.alloc (.cells #[] 3)) := fun _ h => by
  rw [h]
  exact ⟨_, _, rfl, App.empty_own (heap1_0 w2 _) hsw, BB.out.trans ((Below.refl _ _).alloc hsw _)⟩
 have HBAD := Lib.hid (hbad (.cells #[] 3))
 cases rb with
 | false =>
  have HU := Lib.hid (show unbR p f arg fuel kk = ([], false) by rw [HR.out]; rfl)
  clear hacc hrd hW hS hrec hga hho b2 hq hN hbad
  go_wp2_with fail
  go_ret2
  exact HBAD.out HU.out
 | true =>
  by_cases hk0 : kk < 0
  ·have HU := Lib.hid (show unbR p f arg fuel kk = ([], false) by rw [HR.out, if_pos rfl]; unfold byOf; rw [if_neg (by omega)])
   clear hacc hrd hW hS hrec hga hho b2 hq hN hbad
   go_wp2_with fail
   go_ret2
   exact HBAD.out HU.out
  ·obtain ⟨k0, rfl⟩ : ∃ k0 : Nat, kk = k0 := ⟨kk.toNat, by omega⟩
   by_cases hkN : N ≤ k0
   ·have HU := Lib.hid (show unbR p f arg fuel (k0 : Int) = ([], false) by rw [HR.out, if_pos rfl]; unfold byOf; rw [if_neg (by omega)])
    have hge : ((k0 : Int) ≥ (N : Int)) := by omega
    clear hacc hrd hW hS hrec hga hho b2 hq hN hbad
    go_wp2_with fail
    go_ret2
    exact HBAD.out HU.out
   ·obtain ⟨x, hx⟩ : ∃ x, (mds t).pan[k0]? = some x := ⟨_, List.getElem?_eq_getElem (by omega)⟩
    have HU := Lib.hid (show unbR p f arg fuel (k0 : Int) = (x.by_, true) by rw [HR.out, if_pos rfl]; unfold byOf; rw [if_pos (by omega), Int.toNat_natCast, hx])
    have hy : i.forts[k0]? = some (fo x) := by rw [hS.forts, List.getElem?_map, hx]; rfl
    obtain ⟨bf, hbf1, hbf2, hA⟩ := fo_form hW (by omega)
    obtain ⟨Af, cf⟩ := hf
    dsimp only at hA
    subst hA
    obtain ⟨Au, cu, k3, ou⟩ := fo_cells4 hW hy
    dsimp only [fo] at k3 ou
    have OU := Lib.hid (own_mono ou (Nat.le_trans HALs.out.size hlo))
    have hge : ¬ ((k0 : Int) ≥ (N : Int)) := by omega
    have hlt0 : k0 < N := by omega
    clear hacc hrd hW hS hrec hga hho b2 hq hN hbad ou HBAD hx hy
    go_wp2_with fail
    go_ret2
    exact ⟨Au, cu, by rw [HU.out] <;> rfl, by rw [HU.out]; exact OU.out, BB.out⟩
end Go.Proofs.Ytgcjlkdahlfjlaa.Irh
-- squeezed
