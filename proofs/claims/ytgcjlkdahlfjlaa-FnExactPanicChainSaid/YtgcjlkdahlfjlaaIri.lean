/- impl's PanicChain. (Written by wip/tools/geniri.py.) -/
import Derived.Test.YtgcjlkdahlfjlaaIrf
import Derived.Test.YtgcjlkdahlfjlaaPj
import Derived.Test.YtgcjlkdahlfjlaaShelfR
import Derived.Sort.OwnSortedInts
namespace Go.Proofs.Ytgcjlkdahlfjlaa.Iri
set_option linter.unusedVariables false
set_option linter.unusedSimpArgs false
open Go.ChangeShapes Go.WideShapes Go.ChangeAt Go.RowKit
open PL Mem Srun Sst IntsP RowA RowC AccP Swhole Pw Px Ipm Ise Iex Irc Ipa Iun Irs To OwnS AskP Res Sout Irp RunF AcctP TreeP LawI LawA LawN Po Pj Irf

def arrF (fs : List Fo) : Int := match fs.findIdx? (fun y => y.fate == 3) with
 | some k => k
 | none => -1
theorem arrF_fo (pan : List PF) : arrF (pan.map fo) = arrK pan := by
 unfold arrF arrK
 rw [List.findIdx?_map]
 rfl
theorem arrF_yes {fs : List Fo} {j : Nat} {y : Fo} (hy : fs[j]? = some y) (h3 : y.fate = 3) (hno : ∀ (q : Nat) (z : Fo), q < j → fs[q]? = some z → z.fate ≠ 3) : arrF fs = j := by
 have hj : j < fs.length := (List.getElem?_eq_some_iff.1 hy).1
 have h1 : fs.findIdx? (fun y => y.fate == 3) = some j := by
  rw [List.findIdx?_eq_some_iff_getElem]
  refine ⟨hj, ?_, fun q hq => ?_⟩
  ·have := (List.getElem?_eq_some_iff.1 hy).2
   rw [this]
   simpa using h3
  ·have := hno q _ hq (List.getElem?_eq_getElem (by omega))
   simpa using this
 unfold arrF
 rw [h1]
theorem arrF_no {fs : List Fo} (hno : ∀ (q : Nat) (z : Fo), q < fs.length → fs[q]? = some z → z.fate ≠ 3) : arrF fs = -1 := by
 have h1 : fs.findIdx? (fun y => y.fate == 3) = none := by
  rw [List.findIdx?_eq_none_iff]
  intro z hz
  obtain ⟨q, hq, rfl⟩ := List.getElem_of_mem hz
  have := hno q _ hq (List.getElem?_eq_getElem hq)
  simpa using this
 unfold arrF
 rw [h1]
theorem arrK_lt (pan : List PF) : arrK pan = -1 ∨ ∃ k : Nat, arrK pan = k ∧ k < pan.length := by
 unfold arrK
 split
 ·rename_i k hk
  exact .inr ⟨k, rfl, (List.findIdx?_eq_some_iff_getElem.1 hk).1⟩
 ·exact .inl rfl
theorem reverse_any (lo n c : Nat) (A : Option Addr) (xs : List Int) (hl : xs.length = n) (hn : n ≤ 1000000) (w : World) (ho : w.ownsRow lo 3 1 (.slice A n c) n (cellsI xs)) :
  Calls Try.prog 65 #[.slice A n c] w fun e w' => e = .returned (.tuple #[]) ∧ w'.ownsRow lo 3 1 (.slice A n c) n (cellsI xs.reverse) ∧ Chg (fun k => (Value.slice A n c).ownBlock = some k) w w' := by
 rcases ho.2 with ⟨hv, h0⟩ | ⟨g, cap, cur, hv, hg, hh, hnc, hcap, hsz, htake⟩
 ·simp only [Value.slice.injEq] at hv
  obtain ⟨rfl, rfl, rfl⟩ := hv
  obtain rfl : xs = [] := List.eq_nil_of_length_eq_zero hl
  refine (Try.slices_Reverse_int_empty none 0 w).mono ?_
  rintro e w' ⟨rfl, rfl⟩
  exact ⟨rfl, ho, Chg.refl _ _⟩
 ·simp only [Value.slice.injEq, true_and] at hv
  obtain ⟨rfl, rfl⟩ := hv
  subst hl
  have hH := holds_of_blockI (ss := xs) hh (by simpa [cellsI] using htake)
  refine (Try.slices_Reverse_int g 0 c xs w hH (by omega)).mono ?_
  rintro e w' ⟨rfl, q, rfl⟩
  have hg0 : ∀ V : World, Go.Sort.grow V #[] = V := fun V => by simp [Go.Sort.grow]
  have h1 := ownsRow_sortedI (n := q) (os := #[]) (ts := xs.reverse) (by simp) hg hh hnc hcap hsz
  have h2 := grownBy_sortedI (w := w) (g := g) (n := q) (os := #[]) xs.reverse.toArray
  rw [hg0] at h1 h2
  exact ⟨rfl, h1, (Chg.of_grown h2).mono (fun k _ hk => hk.symm)⟩
theorem clo_any (a b c : Int) (v : Value) (W : World) (hv : ∃ A n cc, v = .slice A n cc) : Calls Try.prog 97 #[.agg #[.int .i64 a, .int .i64 b, .int .i64 c, v]] W fun e W' => e = .returned (.bool (a == 3)) ∧ Below W.heap.size W W' := by
 obtain ⟨A, n, cc, rfl⟩ := hv
 go_enter Try.func97, Try.ntmps97
 go_wp2_with fail
 go_ret
 exact ⟨rfl, (Below.refl _ _).alloc (Nat.le_refl _) _⟩
set_option maxRecDepth 100000 in
set_option maxHeartbeats 4000000 in
theorem index_any {w : World} {lo g ga N : Nat} {hp hf ho hr : Hd} {i : IS} (h : IW w lo g ga hp hf ho hr i) (hN : i.forts.length = N) (hl : N ≤ 100000) :
  Calls Try.prog 96 #[.slice hf.A N hf.c, .func (.func 97) #[] #[]] w fun e w' => e = .returned (.int .i64 (arrF i.forts)) ∧ Below w.heap.size w w' := by
 have HW := Lib.hid (fun V (b : Below w.heap.size w V) => h.below b)
 have HN := Lib.hid hN
 clear h hN
 go_enter Try.func96, Try.ntmps96
 go_wp2_with fail
 go_loopw [8] (fun v wr => ∃ j : Nat, j ≤ N ∧ v = .int .i64 j ∧ Below w.heap.size w wr ∧ ∀ (q : Nat) (z : Fo), q < j → i.forts[q]? = some z → z.fate ≠ 3) (fun v _ => N - (intOf v).toNat)
 case atStart => exact ⟨0, Nat.zero_le _, rfl, Below.refl _ _, fun q z hq => absurd hq (Nat.not_lt_zero _)⟩
 case round =>
  obtain ⟨j, hj, rfl, hb, hno⟩ := hrel
  have hsz := hb.size
  by_cases hlt : j < N
  ·obtain ⟨y, hy⟩ : ∃ y, i.forts[j]? = some y := ⟨_, List.getElem?_eq_getElem (by rw [HN.out]; exact hlt)⟩
   have hWr := HW.out wr hb
   obtain ⟨bf, hbf1, hbf2, hA⟩ := fo_form hWr (by rw [HN.out]; omega)
   obtain ⟨Af, cf⟩ := hf
   dsimp only at hA
   subst hA
   obtain ⟨k0, k1, k2, -⟩ := fo_cells hWr hy
   obtain ⟨Au, cu, k3, -⟩ := fo_cells4 hWr hy
   have HC := Lib.hid (clo_any y.fate y.replacer y.replaced (.slice Au y.unwound.length cu) wr ⟨_, _, _, rfl⟩)
   have HB := Lib.hid hb
   have HY := Lib.hid hy
   have HNO := Lib.hid hno
   clear hWr hb hy hno
   go_wp2_with fail
   refine HC.out.mono ?_
   rintro e U ⟨rfl, bU⟩
   have BU := Lib.hid (HB.out.trans (bU.mono hsz))
   clear bU HC HB k0 k1 k2 k3
   by_cases h3 : y.fate = 3
   ·have hb3 : (y.fate == 3) = true := by simpa using h3
    have HF := Lib.hid (arrF_yes HY.out h3 HNO.out)
    clear h3
    go_wp2_with fail
    go_ret
    exact ⟨by rw [HF.out] <;> rfl, BU.out⟩
   ·have hb3 : (y.fate == 3) = false := by simpa using h3
    have H3 := Lib.hid h3
    clear h3
    go_wp2_with fail
    go_roundw
    case rel =>
     refine ⟨j + 1, by omega, by go_num, BU.out, fun q z hq hz => ?_⟩
     by_cases hqj : q = j
     ·subst hqj
      rw [HY.out] at hz
      obtain rfl : y = z := by simpa using hz
      exact H3.out
     ·exact HNO.out q z (by omega) hz
    case measure => simp [intOf]; omega
  ·obtain rfl : j = N := by omega
   have HB := Lib.hid hb
   have HF := Lib.hid (arrF_no (fun q z hq => hno q z (by rw [← HN.out]; exact hq)))
   clear hb hno
   go_wp2_with fail
   go_ret
   exact ⟨by rw [HF.out] <;> rfl, HB.out⟩
theorem arrived_any {w : World} {lo g ga : Nat} {hp hf ho hr : Hd} {i : IS} (h : IW w lo g ga hp hf ho hr i) (hl : i.forts.length ≤ 100000) :
  Calls Try.prog 64 #[.pointer (some ⟨g, 0, none⟩)] w fun e w' => e = .returned (.int .i64 (arrF i.forts)) ∧ Below w.heap.size w w' := by
 obtain ⟨N, hN⟩ : ∃ N, i.forts.length = N := ⟨_, rfl⟩
 have HI := Lib.hid (index_any h hN (by omega))
 have q2 : w.cell? ⟨g, 2, none⟩ = some (.slice hf.A N hf.c) := hN ▸ h.blk.cells 2
 clear h hN
 go_enter Try.func64, Try.ntmps64
 go_wp2_with fail
 refine HI.out.mono ?_
 rintro e U ⟨rfl, bU⟩
 have BU := Lib.hid bU
 clear bU HI
 go_wp2_with fail
 go_ret
 exact ⟨rfl, BU.out⟩
set_option maxRecDepth 100000 in
set_option maxHeartbeats 4000000 in
theorem chnI_any (lo0 n c : Nat) (A : Option Addr) (p : Pg) (f arg fuel : Int) (hn : n ≤ 9223372036854775807) (hl : p.length = n) (hsm : Small p 9223372036854775807) (w : World) (ho : OwnP w lo0 (.slice A n c) p) :
  Calls Try.prog 37 #[.agg #[.slice A n c], .int .i64 f, .int .i64 arg, .int .i64 fuel] w (IntsR (chnR p f arg fuel) w) := by
 obtain ⟨i0, hi, hz0, hz1, hz2⟩ := info_parts info3
 have hbef := panR_bef p f arg fuel
 rw [panR_runR] at hbef
 have hq := Lib.hid (fun W (h : Below w.heap.size w W) => readPanics_any lo0 n c A p f arg fuel hn hl hsm W (ho.below h))
 have hal : ∀ o1 : Obj, Below w.heap.size w (w.alloc o1) := fun o1 => (Below.refl _ _).alloc (Nat.le_refl _) _
 have HALs := Lib.hid (hal (.cells #[.slice A n c] 31))
 have hMl := Nat.le_trans (tds_len (runR p f arg fuel).1.trace).2 (runR_len p f arg fuel)
 have hlens := panR_lens p f arg fuel
 have hpd := runR_pds p f arg fuel
 have hfd := runR_fds p f arg fuel
 have hr : chnR p f arg fuel = (ch (mds (runR p f arg fuel).1.trace).pan (arrK (mds (runR p f arg fuel).1.trace).pan), decide (0 ≤ arrK (mds (runR p f arg fuel).1.trace).pan)) := by unfold chnR; rw [panR_runR]
 rw [panR_runR] at hlens
 generalize runR p f arg fuel = r at *
 obtain ⟨⟨rk, rv, t, rs⟩, rb⟩ := r
 dsimp only at hMl hlens hpd hfd hr
 have HR := Lib.hid hr
 have HPD := Lib.hid hpd
 have HFD := Lib.hid hfd
 have HLENS := Lib.hid hlens
 clear ho hsm hal hpd hfd hr hlens
 go_enter Try.func37, Try.ntmps37
 go_wp2_with fail
 refine (hq.out _ HALs.out).mono ?_
 rintro e w2 ⟨g, ga, lo, k, v, s, At, ct, cv, ov, cur, hp, hf, ho, hr, i, rfl, hacc, hrd, hW, hS, hrec, hga, hg, hlo, hho, b2⟩
 dsimp only at hacc hS hrec
 have BB := Lib.hid (HALs.out.trans (b2.mono HALs.out.size))
 have HGA := Lib.hid hga
 have hsw := BB.out.size
 have HACC := Lib.hid (fun V (b : Below w2.heap.size w2 V) => hacc.below b)
 have HW := Lib.hid (fun V (b : Below w2.heap.size w2 V) => hW.below b)
 have HREC := Lib.hid hrec
 try dsimp only at hbef
 have hPN : (mds t).pan.length = i.pans.length := hS.plen.symm
 have hFN : i.forts.length = i.pans.length := by rw [hS.flen]; exact hPN
 obtain ⟨N, hN⟩ : ∃ N, i.pans.length = N := ⟨_, rfl⟩
 rw [hN] at hPN hFN
 have hNl : N ≤ 100000 := by rw [← hPN]; exact HLENS.out.pan
 have hKF : arrF i.forts = arrK (mds t).pan := by rw [hS.forts, arrF_fo]
 have HPA := Lib.hid (fun (j : Nat) (x : PF) (hx : (mds t).pan[j]? = some x) => pan_at hS hx)
 have HFO := Lib.hid hS.forts
 have HPN := Lib.hid hPN
 have HFN := Lib.hid hFN
 have HN := Lib.hid hN
 have HAR := Lib.hid (fun V (b : Below w2.heap.size w2 V) => arrived_any (hW.below b) (by omega))
 rw [hKF] at HAR
 have hKL := arrK_lt (mds t).pan
 rw [hPN] at hKL
 generalize mds t = sm at *
 have HBEF := Lib.hid hbef
 obtain ⟨K0, hK0⟩ : ∃ K0, arrK sm.pan = K0 := ⟨_, rfl⟩
 rw [hK0] at HAR HR hKL
 have hgl := hW.lt
 clear hacc hrd hW hS hrec hga hho b2 hq hN hPN hFN hKF hbef hK0
 go_wp2_with fail
 refine (HAR.out _ ((Below.refl _ _).alloc (Nat.le_refl _) _)).mono ?_
 rintro e w3 ⟨rfl, b3⟩
 have B3 := Lib.hid (((Below.refl w2.heap.size w2).alloc (Nat.le_refl _) (.cells #[] 3)).trans (b3.mono (by simp)))
 have O3 := Lib.hid (own_below (B' := (w2.alloc (.cells #[] 3)).heap.size) (show OwnI (w2.alloc (.cells #[] 3)) w2.heap.size (.slice (some ⟨w2.heap.size, 0, none⟩) 0 0) [] from App.empty_own (heap1_0 w2 _) (Nat.le_refl _)) b3 (Nat.le_refl _))
 have hs3 := B3.out.size
 clear b3 HAR
 go_wp2_with fail
 go_loopw [12, 13] (fun u v wr => ∃ (A' : Option Addr) (c' : Nat) (a : List Int) (kk : Int), u = .slice A' a.length c' ∧ v = .int .i64 kk ∧ OwnI wr w2.heap.size (.slice A' a.length c') a ∧ Below w2.heap.size w2 wr ∧ (kk = -1 ∨ ∃ k : Nat, kk = k ∧ k < N) ∧ ch sm.pan K0 = ch sm.pan kk ++ a.reverse ∧ (a.length : Int) + kk + 1 ≤ N + 1) (fun _ v _ => (intOf v + 1).toNat)
 case atStart => exact ⟨_, _, [], K0, rfl, rfl, O3.out, B3.out, hKL, by simp, by rcases hKL with h | ⟨k, h, hk⟩ <;> simp <;> omega⟩
 case round =>
  obtain ⟨A', c', a, kk, rfl, rfl, hown, hb, hkk, hch, hal⟩ := hrel
  clear O3 B3
  have hsz := hb.size
  rcases hkk with rfl | ⟨k, rfl, hk⟩
  ·have hca : ch sm.pan K0 = a.reverse := by rw [hch, ch_neg]; rfl
   have HRV := Lib.hid (reverse_any w2.heap.size a.length c' A' a rfl (by omega) wr hown)
   have HB := Lib.hid hb
   have HCA := Lib.hid hca
   have hlo2 := Lib.hid (fun x (hx : (Value.slice A' a.length c').ownBlock = some x) => (World.ownsRow.lt hown x hx).1)
   have HPOS := Lib.hid (show decide (0 ≤ K0) = decide (0 < a.length) from (by
    rcases hKL with h | ⟨k, h, hk⟩
    ·subst h
     rw [ch_neg] at hca
     have : a = [] := by have := congrArg List.length hca; simp at this; exact List.eq_nil_of_length_eq_zero this.symm
     subst this
     rfl
    ·subst h
     obtain ⟨x, hx⟩ : ∃ x, sm.pan[k]? = some x := ⟨_, List.getElem?_eq_getElem (by rw [HPN.out]; exact hk)⟩
     rw [ch_next HBEF.out hx] at hca
     have := congrArg List.length hca
     simp at this
     rw [decide_eq_true (by omega), decide_eq_true (by omega)]))
   clear hown hb hch hca
   go_wp2_with fail
   refine HRV.out.mono ?_
   rintro e U ⟨rfl, oU, cU⟩
   have OU := Lib.hid oU
   have BU := Lib.hid (HB.out.trans (cU.below hsz (fun x hx e => by have := hlo2.out x e; omega)))
   clear oU cU HRV HB
   go_wp2_with fail
   go_ret2
   have e2 : (ch sm.pan K0).length = a.length := by rw [HCA.out, List.length_reverse]
   exact ⟨_, _, by rw [HR.out]; dsimp only; rw [e2, HPOS.out] <;> rfl, by rw [HR.out]; dsimp only; rw [e2, HCA.out]; unfold OwnI; rw [List.length_reverse]; exact own_mono OU.out hsw, BB.out.trans (BU.out.mono hsw)⟩
  ·obtain ⟨x, hx⟩ : ∃ x, sm.pan[k]? = some x := ⟨_, List.getElem?_eq_getElem (by rw [HPN.out]; exact hk)⟩
   have hnx := ch_next HBEF.out hx
   have hbf := HBEF.out k x hx
   have hz := HPA.out k x hx
   have hy : i.forts[k]? = some (fo x) := by rw [HFO.out, List.getElem?_map, hx]; rfl
   have hWr := HW.out wr hb
   obtain ⟨bp, hbp, hA⟩ := pa_form hWr (by rw [HN.out]; omega)
   obtain ⟨Ap, cp⟩ := hp
   dsimp only at hA
   subst hA
   obtain ⟨-, -, k2, -, -⟩ := row_z hWr.pans rfl hz
   dsimp only at k2
   have q1 : wr.cell? ⟨g, 1, none⟩ = some (.slice (some ⟨bp, 0, none⟩) N cp) := HN.out ▸ hWr.blk.cells 1
   have O := Lib.hid hown
   have HB := Lib.hid hb
   have HCH := Lib.hid (show ch sm.pan K0 = ch sm.pan x.bef ++ (a ++ [x.v]).reverse by rw [hch, hnx, List.append_assoc, List.reverse_append]; rfl)
   have HY := Lib.hid hy
   have hne : ((k : Int) != -1) = true := by simp
   obtain ⟨xv, hxv⟩ : ∃ xv, x.v = xv := ⟨_, rfl⟩
   rw [hxv] at k2 HCH
   clear hWr hown hb hch hz hy hx hnx hxv
   go_wp2_with (at_builtin; refine App.row_list _ rfl (.tmp 35) (.tmp 45) 38 rfl w2.heap.size wr.heap.size 3 i0 _ 1 8 Try.underlying38 hi hz0 hz1 hz2 rfl (by decide) (.slice A' a.length c') a.length (cellsI a) rfl (World.ownsRow.alloc O.out _) (.slice (some ⟨wr.heap.size, 0, none⟩) 1 1) 1 [.int .i64 xv] rfl (single_own (heap1_0 wr _) (Nat.le_refl _)) (by intro u hu; simp at hu; rcases hu with rfl; rfl) (by unfold maxLen; omega) (by omega) (by show w2.heap.size ≤ (wr.alloc _).heap.size; rw [World.size_alloc]; omega) ?_)
   intro v1 w1 o1 g1 t1
   have hlo2 : ∀ x, (Value.slice A' a.length c').ownBlock = some x → w2.heap.size ≤ x := fun x hx => (World.ownsRow.lt O.out x hx).1
   have b1 : Below w2.heap.size w2 w1 := HB.out.trans (((Below.refl wr.heap.size wr).alloc (Nat.le_refl _) (.cells #[.int .i64 xv] 3)).mono hsz |>.trans ((Chg.of_grown g1).below (by rw [World.size_alloc]; omega) (fun x hx e => by have := hlo2 x e.symm; omega)))
   obtain ⟨A1, c1, rfl⟩ := own_slice o1
   have O1 := Lib.hid (show OwnI w1 w2.heap.size (.slice A1 (a ++ [xv]).length c1) (a ++ [xv]) from (by unfold OwnI; rw [List.length_append, List.length_singleton, cellsI_append]; exact o1))
   have hW1 := HW.out w1 b1
   obtain ⟨bf, hbf1, hbf2, hA⟩ := fo_form hW1 (by rw [HFN.out]; omega)
   obtain ⟨Af, cf⟩ := hf
   dsimp only at hA
   subst hA
   obtain ⟨-, -, f2, -⟩ := fo_cells hW1 HY.out
   dsimp only [fo] at f2
   have q2 : w1.cell? ⟨g, 2, none⟩ = some (.slice (some ⟨bf, 0, none⟩) N cf) := HFN.out ▸ hW1.blk.cells 2
   have B1 := Lib.hid b1
   clear o1 g1 t1 b1 hW1 O HB k2 q1 hlo2
   go_wp2_with fail
   go_roundw
   case rel =>
    refine ⟨A1, c1, a ++ [xv], x.bef, by rw [List.length_append, List.length_singleton], rfl, O1.out, B1.out, ?_, HCH.out, ?_⟩
    ·rcases hbf with h | ⟨q, hq, h⟩
     ·exact .inl h
     ·exact .inr ⟨q, h, by omega⟩
    ·rw [List.length_append, List.length_singleton]
     rcases hbf with h | ⟨q, hq, h⟩ <;> push_cast <;> omega
   case measure =>
    simp only [intOf]
    rcases hbf with h | ⟨q, hq, h⟩ <;> omega
end Go.Proofs.Ytgcjlkdahlfjlaa.Iri
-- squeezed
