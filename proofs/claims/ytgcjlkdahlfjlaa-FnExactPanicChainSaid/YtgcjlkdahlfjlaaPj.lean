/- The model's PanicChain. (Written by wip/tools/genpj.py.) -/
import Derived.Test.YtgcjlkdahlfjlaaPo
import Derived.Test.YtgcjlkdahlfjlaaM28
namespace Go.Proofs.Ytgcjlkdahlfjlaa.Pj
set_option linter.unusedVariables false
set_option linter.unusedSimpArgs false
open Go.ChangeShapes Go.WideShapes Go.ChangeAt Go.RowKit
open PL Mem Srun Sst Ssim Smk To OwnS AskP RunF Res Swhole Sout IntsP RowA LawI LawA PMem Psf Pw Px Py Pr Pz Pt Po

theorem out_field0' (a b c d : Value) (w : World) : (Instr.field 90 (.agg #[a, b, c, d]) 0).run Try.prog w = .ok a w := by kernel_rfl
def arrK (pan : List PF) : Int := match pan.findIdx? (fun x => x.fate == 3) with
 | some k => k
 | none => -1
theorem arrK_some {pan : List PF} {k : Nat} (hk : k < pan.length) (h : ∀ i x, pan[i]? = some x → (x.fate = 3 ↔ i = k)) : arrK pan = k := by
 unfold arrK
 have h1 : pan.findIdx? (fun x => x.fate == 3) = some k := by
  rw [List.findIdx?_eq_some_iff_getElem]
  refine ⟨hk, ?_, fun j hj => ?_⟩
  ·have := (h k _ (List.getElem?_eq_getElem hk)).2 rfl
   simpa using this
  ·have hj' : j < pan.length := by omega
   have := (h j _ (List.getElem?_eq_getElem hj'))
   intro hc
   have := this.1 (by simpa using hc)
   omega
 rw [h1]
theorem arrK_none {pan : List PF} (h : NoArr pan) : arrK pan = -1 := by
 unfold arrK
 have h1 : pan.findIdx? (fun x => x.fate == 3) = none := by
  rw [List.findIdx?_eq_none_iff]
  intro x hx
  simpa using h x hx
 rw [h1]
def chnR (p : Pg) (f arg fuel : Int) : List Int × Bool := (ch (panR p f arg fuel).1.pan (arrK (panR p f arg fuel).1.pan), decide (0 ≤ arrK (panR p f arg fuel).1.pan))
theorem panR_bef (p : Pg) (f arg fuel : Int) : BefOk (panR p f arg fuel).1.pan := by
 unfold panR
 split
 ·have h := (old_all (whole_p p fuel f arg) _ (Nat.le_refl _)).bef
  rw [List.take_length] at h
  exact h
 ·intro k x hx
  cases hx
theorem chnR_len (p : Pg) (f arg fuel : Int) : (chnR p f arg fuel).1.length ≤ 100000 := by
 have hl := (panR_lens p f arg fuel).pan
 have hb := panR_bef p f arg fuel
 unfold chnR
 dsimp only
 generalize (panR p f arg fuel).1.pan = pan at *
 unfold arrK
 split
 ·rename_i k hk
  have h1 := (List.findIdx?_eq_some_iff_getElem.1 hk).1
  have := ch_len hb k k (Nat.le_refl _)
  omega
 ·rw [ch_neg]
  exact Nat.zero_le _
theorem single_own {V : World} {g e base : Nat} {x : Value} (h : V.heap[g]? = some (.cells #[x] e)) (hb : base ≤ g) : V.ownsRow base e 1 (.slice (some ⟨g, 0, none⟩) 1 1) 1 [x] :=
 ⟨by simp, .inr ⟨g, 1, #[x], rfl, hb, h, Nat.le_refl _, by decide, by simp, by simp⟩⟩
set_option maxRecDepth 100000 in
set_option maxHeartbeats 4000000 in
theorem chnS_any (lo n c : Nat) (A : Option Addr) (p : Pg) (f arg fuel : Int) (hn : n ≤ 9223372036854775807) (hl : p.length = n) (hsm : Small p 9223372036854775807) (w : World) (ho : OwnP w lo (.slice A n c) p) :
  Calls Try.prog 36 #[.agg #[.slice A n c], .int .i64 f, .int .i64 arg, .int .i64 fuel] w (IntsR (chnR p f arg fuel) w) := by
 obtain ⟨i0, hi, hz0, hz1, hz2⟩ := info_parts info3
 have hq := Lib.hid (fun W (h : Below w.heap.size w W) => l2Ask_any w.heap.size A n c p f arg fuel hn hl hsm W (ho.rd.below h) h.size)
 have hal : ∀ o1 o2 : Obj, Below w.heap.size w ((w.alloc o1).alloc o2) := fun o1 o2 => ((Below.refl _ _).alloc (Nat.le_refl _) _).alloc (by simp) _
 have HAL := Lib.hid (hal (.cells #[.slice A n c] 31) (.cells #[] 3))
 have HE := Lib.hid (show ((w.alloc (.cells #[.slice A n c] 31)).alloc (.cells #[] 3)).ownsRow w.heap.size 3 1 (.slice (some ⟨w.heap.size + 1, 0, none⟩) 0 0) 0 [] from App.empty_own (heap2_1 w _ _) (by omega))
 have hlen := (panR_lens p f arg fuel).pan
 have hbf := panR_bef p f arg fuel
 cases ha : asks p f arg fuel with
 | false =>
  have hr := Lib.hid (show chnR p f arg fuel = ([], false) by unfold chnR panR; rw [ha]; rfl)
  rw [ha] at hq
  clear ha ho hsm hlen hbf
  go_enter Try.func36, Try.ntmps36
  go_wp2_with fail
  refine (hq.out _ HAL.out).mono ?_
  rintro e w1 ⟨rfl, b1⟩
  have B := Lib.hid (HAL.out.trans (b1.mono HAL.out.size))
  have O1 := Lib.hid (own_below HE.out b1 (Nat.le_refl _))
  clear b1 hq
  go_wp2_with fail
  go_ret2
  exact ⟨_, _, by rw [hr.out] <;> rfl, by rw [hr.out]; exact O1.out, B.out⟩
 | true =>
  obtain ⟨g1, g2, g3, g4, g5, g6⟩ := start_wf (n := n) ha
  have hn6 : p.length ≤ 6 ∧ Small p 8 := okProg_small g1
  have hru := Lib.hid (fun W (h : Below w.heap.size w W) => l4Of_any lo n c A p f arg fuel hl (hn6.2.mono (by omega)) (by omega) ha W (ho.below h))
  have hr2 := Lib.hid (fun W (h : Below w.heap.size w W) => l2Run_any lo n c A p f arg fuel hl (hn6.2.mono (by omega)) (by omega) ha W (ho.below h))
  have hrr : panR p f arg fuel = (mds (run p fuel f arg).trace, true) := by unfold panR; rw [ha]; rfl
  have hr : chnR p f arg fuel = (ch (mds (run p fuel f arg).trace).pan (arrK (mds (run p fuel f arg).trace).pan), decide (0 ≤ arrK (mds (run p fuel f arg).trace).pan)) := by unfold chnR; rw [hrr]
  have hra := run_arr p fuel f arg
  rw [hrr] at hlen hbf
  rw [ha] at hq
  clear ha ho hsm g1 g2 g3 g4 g5 g6 hn6 hrr hal
  generalize mds (run p fuel f arg).trace = s at *
  generalize run p fuel f arg = rr at *
  obtain ⟨k, v, t, sp⟩ := rr
  dsimp only at hlen hbf hra
  obtain ⟨N, hN⟩ : ∃ N, s.pan.length = N := ⟨_, rfl⟩
  have HN := Lib.hid hN
  rw [hN] at hlen
  have HBF := Lib.hid hbf
  have HRA := Lib.hid hra
  have HR := Lib.hid hr
  clear hr hra hbf
  go_enter Try.func36, Try.ntmps36
  go_wp2_with fail
  refine (hq.out _ HAL.out).mono ?_
  rintro e w1 ⟨rfl, b1⟩
  have a1' : w1.cell? ⟨w.heap.size, 0, none⟩ = some (.slice A n c) := (Blk.below (B := w.heap.size + 2) (heap2_0 w (.cells #[.slice A n c] 31) (.cells #[] 3)) (by simpa using b1) (by omega)).cells 0
  have bb := Lib.hid (HAL.out.trans (b1.mono HAL.out.size))
  have O1 := Lib.hid (own_below HE.out b1 (Nat.le_refl _))
  clear b1 hq HE HAL
  go_wp2_with fail
  refine (hr2.out _ bb.out).mono ?_
  rintro e w2 ⟨A2, c2, rfl, ht, b2⟩
  unfold outval
  dsimp only
  have B2 := Lib.hid (bb.out.trans (b2.mono bb.out.size))
  have O2 := Lib.hid (own_below O1.out b2 (Nat.le_refl _))
  have a2' : w2.cell? ⟨w.heap.size, 0, none⟩ = some (.slice A n c) := (b2.cell (show (⟨w.heap.size, 0, none⟩ : Addr).block < w1.heap.size from (World.ownsRow.lt O1.out _ rfl).2 |> fun h => by dsimp only at h ⊢; omega)).trans a1'
  have hf0 := fun u => out_field0' (.int .i64 k) (.int .i64 v) (.slice A2 t.length c2) (.int .i64 sp) u
  clear a1' b2 ht bb O1 hr2
  by_cases hk2 : k = 2
  ·subst hk2
   obtain ⟨k0, hk0, huq⟩ : ∃ k, k < s.pan.length ∧ ∀ i x, s.pan[i]? = some x → (x.fate = 3 ↔ i = k) := HRA.out.elim (fun h => h.2) (fun h => absurd rfl h.1)
   have HUQ := Lib.hid huq
   have HR2 := Lib.hid (show chnR p f arg fuel = (ch s.pan k0, true) by rw [HR.out, arrK_some hk0 huq]; simp)
   rw [hN] at hk0
   clear huq
   go_wp2_with fail
   refine (hru.out _ B2.out).mono ?_
   rintro e w3 ⟨h0, h1, h2, h3, h4, h5, h6, rfl, hW, b3⟩
   obtain ⟨A1, c1⟩ := h1
   obtain ⟨A6, c6⟩ := h6
   have B3 := Lib.hid (B2.out.trans (b3.mono B2.out.size))
   have O3 := Lib.hid (own_below O2.out b3 (Nat.le_refl _))
   have RD := Lib.hid (show Rd3 w3 w3.heap.size A1 (s.pan.map p3) from rd_own (n := N) (c := c1) (by rw [← HN.out]; exact hW.pan))
   have RB := Lib.hid (show RdI w3 w3.heap.size A6 (s.pan.map PF.bef) from OwnI.rd (n := N) (c := c6) (by unfold OwnI; rw [List.length_map, ← HN.out]; exact W4.bef hW) (by rw [List.length_map]; exact HN.out))
   clear a2' hru b3 hW hf0
   go_upto_region 5 with fail
   change (fun V => Code.wp _ _ _ _ V) _
   refine gen_world (X := fun V => Blk V w3.heap.size 61 #[.slice h0.A s.stk.length h0.c, .slice A1 N c1, .slice h2.A N h2.c, .slice h3.A N h3.c, .slice h4.A s.rcv.length h4.c, .slice h5.A N h5.c, .slice A6 N c6] ∧ Rd3 V w3.heap.size A1 (s.pan.map p3) ∧ RdI V w3.heap.size A6 (s.pan.map PF.bef) ∧ V.ownsRow w.heap.size 3 1 (.slice (some ⟨w.heap.size + 1, 0, none⟩) 0 0) 0 [] ∧ Below w.heap.size w V ∧ w3.heap.size < V.heap.size) ⟨(by rw [← HN.out]; exact heap1_0 w3 _), RD.out.below ((Below.refl _ _).alloc (Nat.le_refl _) _), RB.out.below ((Below.refl _ _).alloc (Nat.le_refl _) _), World.ownsRow.alloc O3.out _, B3.out.alloc B3.out.size _, by simp⟩ ?_
   clear RD RB O3 B3 O2 B2
   generalize w3.heap.size = bx
   rintro V ⟨xb, rd, rb, oV, bV, hbx⟩
   have z1 : V.cell? ⟨bx, 1, none⟩ = some (.slice A1 N c1) := xb.cells 1
   have XB := Lib.hid xb
   have RD := Lib.hid rd
   have RB := Lib.hid rb
   have OV := Lib.hid oV
   have BV := Lib.hid bV
   have hnn : ((N : Nat) : Int) - 1 = ((N - 1 : Nat) : Int) := by omega
   clear xb rd rb oV bV hN
   go_wp2_with fail
   go_loopw [12] (fun q wr => ∃ (j : Nat), k0 ≤ j ∧ j < N ∧ q = .int .i64 j ∧ wr = V) (fun q _ => (intOf q).toNat)
   case atStart => exact ⟨N - 1, by omega, by omega, by first | rfl | go_num, rfl⟩
   case round =>
    obtain ⟨j, hj0, hj, rfl, rfl⟩ := hrel
    obtain ⟨x, hs⟩ : ∃ x, s.pan[j]? = some x := ⟨_, List.getElem?_eq_getElem (by rw [HN.out]; exact hj)⟩
    obtain ⟨ad, rfl, hab, h0', h1', h2'⟩ := RD.out j (p3 x) (by rw [List.getElem?_map, hs]; rfl)
    have hu := HUQ.out j x hs
    obtain ⟨xf, xv, fa, xc, xd, xby, xr, xbb⟩ := x
    dsimp only [p3] at h0' h1' h2' hu
    clear hs
    by_cases hjk : j = k0
    ·have hfa : fa = 3 := hu.2 hjk
     subst hfa
     subst hjk
     clear hu h0' h1'
     go_wp2_with fail
     clear h2' z1
     generalize wr = V0 at *
     go_loopw [10, 12] (fun o q wx => ∃ (kk : Int) (Ao : Option Addr) (co : Nat) (L : List Int), (kk = -1 ∨ ∃ i : Nat, i < N ∧ kk = i) ∧ q = .int .i64 kk ∧ o = .slice Ao L.length co ∧ ch s.pan j = ch s.pan kk ++ L ∧ OwnI wx w.heap.size (.slice Ao L.length co) L ∧ Below w.heap.size w wx ∧ Below V0.heap.size V0 wx) (fun _ q _ => (intOf q + 1).toNat)
     case atStart => exact ⟨j, _, _, [], .inr ⟨j, hj, rfl⟩, rfl, rfl, by simp, OV.out, BV.out, Below.refl _ _⟩
     case round =>
      obtain ⟨kk, Ao, co, L, hkk, rfl, rfl, hch, hown, hb, hb2⟩ := hrel
      have hLl : L.length ≤ 100001 := by
       have h1 := ch_len HBF.out j j (Nat.le_refl _)
       rw [hch, List.length_append] at h1
       omega
      have O := Lib.hid hown
      have HB := Lib.hid hb
      have HB2 := Lib.hid hb2
      have HCH := Lib.hid hch
      clear hown hb hb2 hch
      rcases hkk with rfl | ⟨i, hin, rfl⟩
      ·have hc2 : ch s.pan j = L := by rw [HCH.out, ch_neg]; rfl
       have HC2 := Lib.hid (HR2.out.trans (by rw [hc2]))
       clear hc2
       go_wp2_with fail
       go_ret2
       exact ⟨Ao, co, by rw [HC2.out] <;> rfl, by rw [HC2.out]; exact O.out, HB.out⟩
      ·obtain ⟨x, hs⟩ : ∃ x, s.pan[i]? = some x := ⟨_, List.getElem?_eq_getElem (by rw [HN.out]; exact hin)⟩
       have hbl := HB2.out.mono (Nat.le_of_lt hbx)
       obtain ⟨ad', had, hab', q0, q1, q2⟩ := (RD.out.below hbl) i (p3 x) (by rw [List.getElem?_map, hs]; rfl)
       injection had with had
       subst had
       obtain ⟨ab, rfl, hbb, hbc⟩ := (RB.out.below hbl) i x.bef (by rw [List.getElem?_map, hs]; rfl)
       have xw := XB.out.below HB2.out XB.out.lt
       have z1 := xw.cells 1
       have HX := Lib.hid (show ch s.pan j = ch s.pan x.bef ++ ([x.v] ++ L) by rw [HCH.out, ch_next HBF.out hs, List.append_assoc])
       have hbo := HBF.out i x hs
       have XW := Lib.hid xw
       have hwz := HB.out.size
       have hbz : bx < V0.heap.size := hbx
       have hvz := HB2.out.size
       dsimp only [p3] at q0 q1 q2
       clear hs q0 q2 xw hbl
       have hone : ∀ u ∈ cellsI L, u.oneCell' = true := by
        intro u hu
        simp only [cellsI, List.mem_map] at hu
        obtain ⟨z, _, rfl⟩ := hu
        rfl
       go_wp2_with (at_builtin; refine App.row_list _ rfl (.tmp 56) (.tmp 57) 38 rfl wr.heap.size w.heap.size 3 i0 _ 1 8 Try.underlying38 hi hz0 hz1 hz2 rfl (by decide) (.slice (some ⟨wr.heap.size, 0, none⟩) 1 1) 1 [.int .i64 x.v] rfl (single_own (heap1_0 wr _) (Nat.le_refl _)) (.slice Ao L.length co) L.length (cellsI L) rfl (World.ownsRow.alloc O.out _) hone (by unfold maxLen; omega) (by omega) (by simp) ?_)
       intro v1 w4 o1 g1 t1
       have b4 : Below wr.heap.size wr w4 := ((App.Bl.refl wr).alloc _).grown g1 (fun k hk => Nat.le_of_eq (by simpa [Value.ownBlock] using hk))
       obtain ⟨A9, c9, rfl⟩ := own_slice o1
       have z6 := (XW.out.below b4 XW.out.lt).cells 6
       have hb6 : w4.cell? (ab.add i) = some (.int .i64 x.bef) := (b4.cell (show (ab.add i).block < wr.heap.size from by rw [block_of_add]; omega)).trans hbc
       have O9 := Lib.hid o1
       have B9 := Lib.hid (HB.out.trans (b4.mono hwz))
       have BV9 := Lib.hid (HB2.out.trans (b4.mono hvz))
       clear o1 g1 t1 b4 z1 q1 hbc O HB HB2 XW HCH
       go_wp2_with fail
       clear z6 hb6
       go_roundw
       case rel =>
        refine ⟨x.bef, A9, c9, [x.v] ++ L, ?_, rfl, by rw [List.length_append, List.length_singleton], HX.out, ?_, B9.out, BV9.out⟩
        ·rcases hbo with e | ⟨m, hm, e⟩
         ·exact .inl e
         ·exact .inr ⟨m, by omega, e⟩
        ·have h9 := own_mono (B' := w.heap.size) O9.out hwz
         unfold OwnI
         rw [List.length_append, List.length_singleton, cellsI_append]
         exact h9
       case measure =>
        simp only [intOf]
        rcases hbo with e | ⟨m, hm, e⟩ <;> omega
    ·have hfa : (fa == 3) = false := by
      have : fa ≠ 3 := fun h => hjk (hu.1 h)
      simpa using this
     have hfb : (fa != 3) = true := by
      have : fa ≠ 3 := fun h => hjk (hu.1 h)
      simpa using this
     clear hu h0' h1'
     go_wp2_with fail
     go_roundw
     case rel => exact ⟨j - 1, by omega, by omega, by first | go_num | (congr 1; omega), by first | rfl | trivial⟩
     case measure => simp [intOf]; omega
  ·have HNA : NoArr s.pan := HRA.out.elim (fun h => absurd h.1 hk2) (fun h => h.2)
   have HR2 := Lib.hid (show chnR p f arg fuel = ([], false) by rw [HR.out, arrK_none HNA]; rfl)
   have hkb : (k != 2) = true := by simpa using hk2
   have hkb2 : (k == 2) = false := by simpa using hk2
   clear HNA hk2
   go_wp2_with fail
   go_ret2
   exact ⟨_, _, by rw [HR2.out] <;> rfl, by rw [HR2.out]; exact O2.out, B2.out⟩
end Go.Proofs.Ytgcjlkdahlfjlaa.Pj
-- squeezed
