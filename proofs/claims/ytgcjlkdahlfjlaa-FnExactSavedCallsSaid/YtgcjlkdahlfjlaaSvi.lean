/- impl's savedCalls, SavedCalls. (Written by wip/tools/genisv.py.) -/
import Derived.Test.YtgcjlkdahlfjlaaIrf
import Derived.Test.YtgcjlkdahlfjlaaSvs
namespace Go.Proofs.Ytgcjlkdahlfjlaa.Svi
set_option linter.unusedVariables false
set_option linter.unusedSimpArgs false
open Go.ChangeShapes Go.WideShapes Go.ChangeAt Go.RowKit
open PL Mem Srun Sst IntsP RowA RowC AccP Swhole Pw Px Ipm Ise Iex Irc Ipa Iun Irs To OwnS AskP Res Sout Irp RunF AcctP TreeP LawI LawA LawN Po Irf Sv

theorem rc_form {V : World} {lo g ga : Nat} {hp hf ho hr : Hd} {i : IS} (h : IW V lo g ga hp hf ho hr i) (hl : 0 < i.rec_.length) : ∃ b, b < V.heap.size ∧ hr.A = some ⟨b, 0, none⟩ := by
 rcases own_form h.rec_ with ⟨h0, _⟩ | ⟨_, b, cap, hv, hb1, hb2⟩
 ·omega
 ·simp only [Value.slice.injEq, true_and] at hv
  exact ⟨b, hb2, hv.1⟩
set_option maxRecDepth 100000 in
set_option maxHeartbeats 4000000 in
theorem savedCalls_any {w : World} {lo g ga N : Nat} {hp hf ho hr : Hd} {i : IS} {k v s cur : Int} {tv cv ov : Value} {cs : List CI} {os : List Int} (h : IW w lo g ga hp hf ho hr i) (ha : Acc ga k v s tv cv ov cs os cur w) (hN : i.rec_.length = N) (hNl : N ≤ 100000) (hA : ∀ q ∈ i.rec_, ∃ a : Nat, q.2 = a ∧ a < cs.length) :
  Calls Try.prog 68 #[.pointer (some ⟨g, 0, none⟩)] w fun e w' => ∃ A c, e = .returned (.slice A N c) ∧ OwnI w' w.heap.size (.slice A N c) (i.rec_.map (fun q : Int × Int => parOf cs q.2)) ∧ Below w.heap.size w w' := by
 obtain ⟨i0, hi, hz0, hz1, hz2⟩ := info_parts info3
 have HW := Lib.hid (fun V (b : Below w.heap.size w V) => h.below b)
 have HACC := Lib.hid (fun V (b : Below w.heap.size w V) => ha.below b)
 have q4 : w.cell? ⟨g, 4, none⟩ = some (.slice hr.A N hr.c) := hN ▸ h.blk.cells 4
 have hmk := fun W => run_make_rowN (P := Try.prog) 38 3 i0 _ Try.underlying38 hi hz0 .i64 .i64 N N (Nat.le_refl _) (by rw [hz2]; omega) (by omega) W
 rw [hz1] at hmk
 have HN := Lib.hid hN
 have HAA := Lib.hid hA
 have hgl := h.lt
 have hgal := ha.lt
 have q4' : ∀ o, (w.alloc o).cell? ⟨g, 4, none⟩ = some (.slice hr.A N hr.c) := fun o => hN ▸ (h.below ((Below.refl _ _).alloc (Nat.le_refl _) _)).blk.cells 4
 clear h ha hN hA
 go_enter Try.func68, Try.ntmps68
 go_wp2_with fail
 go_loopw [17] (fun v wr => ∃ j : Nat, j ≤ N ∧ v = .int .i64 j ∧ wr.ownsRow w.heap.size 3 1 (.slice (some ⟨w.heap.size, 0, none⟩) N N) N (cellsI ((i.rec_.take j).map (fun q : Int × Int => parOf cs q.2) ++ List.replicate (N - j) 0)) ∧ Below w.heap.size w wr) (fun v _ => N - (intOf v).toNat)
 case atStart =>
  refine ⟨0, Nat.zero_le _, rfl, ?_, (Below.refl _ _).alloc (Nat.le_refl _) _⟩
  have := World.ownsRow_lit (base := w.heap.size) (e := 3) (size := 1) w (madeCells #[Value.int .i64 0] (N * 1)) N (Nat.le_refl _) (by unfold maxLen; omega) (size_madeCells _ _)
  rw [Nat.mul_one, toList_madeCells_one] at this
  simpa [cellsI, List.map_replicate] using this
 case round =>
  obtain ⟨j, hj, rfl, hown, hb⟩ := hrel
  clear q4 q4' hmk
  have hsz := hb.size
  by_cases hlt : j < N
  ·obtain ⟨⟨qn, qc⟩, hq⟩ : ∃ q, i.rec_[j]? = some q := ⟨_, List.getElem?_eq_getElem (by rw [HN.out]; exact hlt)⟩
   obtain ⟨a, ha, hal⟩ := HAA.out _ (List.mem_of_getElem? hq)
   dsimp only at ha
   subst ha
   obtain ⟨x, hx⟩ : ∃ x, cs[a]? = some x := ⟨_, List.getElem?_eq_getElem hal⟩
   have hWr := HW.out wr hb
   obtain ⟨br, hbr, hA⟩ := rc_form hWr (by rw [HN.out]; omega)
   obtain ⟨Ar, cr⟩ := hr
   dsimp only at hA
   subst hA
   have k0 := row_at q2_len hWr.rec_ hq (o := 0) (by decide) rfl
   have k1 := row_at q2_len hWr.rec_ hq (o := 1) (by decide) rfl
   have HNX := Lib.hid (show ((i.rec_.take j).map (fun q : Int × Int => parOf cs q.2) ++ List.replicate (N - j) 0).set j x.par = (i.rec_.take (j + 1)).map (fun q : Int × Int => parOf cs q.2) ++ List.replicate (N - (j + 1)) 0 from (by
    have := map_set_next (φ := fun q : Int × Int => parOf cs q.2) hq HN.out
    dsimp only at this
    rw [parOf_at hx] at this
    exact this))
   generalize (i.rec_.take j).map (fun q : Int × Int => parOf cs q.2) ++ List.replicate (N - j) 0 = L at *
   have O := Lib.hid hown
   have HB := Lib.hid hb
   have HX := Lib.hid hx
   replace k0 : wr.cell? ⟨br, j * 2, none⟩ = some (.int .i64 qn) := k0
   replace k1 : wr.cell? ⟨br, j * 2 + 1, none⟩ = some (.int .i64 (a : Int)) := k1
   clear hWr hown hb hq hx
   go_upto_region 5 with fail
   change (fun V => Code.wp _ _ _ _ V) _
   refine gen_world (X := fun V => Blk V wr.heap.size 85 #[.int .i64 qn, .int .i64 a] ∧ V.ownsRow w.heap.size 3 1 (.slice (some ⟨w.heap.size, 0, none⟩) N N) N (cellsI L) ∧ Below w.heap.size w V) ⟨heap1_0 wr _, own_below (B' := wr.heap.size) O.out ((Below.refl _ _).alloc (Nat.le_refl _) _) (Nat.le_refl _), HB.out.alloc hsz _⟩ ?_
   clear HB O k0 k1
   generalize wr.heap.size = bx at *
   rintro V ⟨eX, oX, bX⟩
   have aV := HACC.out V bX
   obtain ⟨bc, cc, hbc1, hbc2, hcv⟩ := call_form aV (by omega)
   subst hcv
   have wV := HW.out V bX
   obtain ⟨-, xp, -, -, -⟩ := own_cell5 aV.calls HX.out
   obtain ⟨u0, hu0⟩ := own_cellI oX hlt
   have fz := oX.frozenAt
   have S0 : (fun V : World => V.cell? ⟨bx, 1, none⟩ = some (.int .i64 a) ∧ V.cell? ⟨g, 0, none⟩ = some (.pointer (some ⟨ga, 0, none⟩)) ∧ V.cell? ⟨ga, 4, none⟩ = some (.slice (some ⟨bc, 0, none⟩) cs.length cc) ∧ V.cell? ⟨bc, a * 5 + 1, none⟩ = some (.int .i64 x.par)) V.drew := ⟨eX.cells 1, wV.blk.cells 0, aV.blk.cells 4, xp⟩
   have OX := Lib.hid oX
   have BX := Lib.hid bX
   clear eX oX bX aV wV xp
   refine Last2.region_last [15] (fun V : World => V.cell? ⟨bx, 1, none⟩ = some (.int .i64 a) ∧ V.cell? ⟨g, 0, none⟩ = some (.pointer (some ⟨ga, 0, none⟩)) ∧ V.cell? ⟨ga, 4, none⟩ = some (.slice (some ⟨bc, 0, none⟩) cs.length cc) ∧ V.cell? ⟨bc, a * 5 + 1, none⟩ = some (.int .i64 x.par)) (by kernel_rfl) ?_
   refine Last2.tk 0 22 (.slice (some ⟨w.heap.size, 0, none⟩) N N) S0 ?_
   simp only [Act.put, Last2.s0, Last2.s1, Last2.s2]
   refine Last2.tk 1 23 (.int .i64 j) S0 ?_
   simp only [Act.put, Last2.s0, Last2.s1, Last2.s2]
   refine Last2.tk 2 24 (.pointer (some ⟨g, 0, none⟩)) S0 ?_
   simp only [Act.put, Last2.s0, Last2.s1, Last2.s2]
   refine Last2.tk 3 25 (.pointer (some ⟨g, 0, none⟩)) S0 ?_
   simp only [Act.put, Last2.s0, Last2.s1, Last2.s2]
   refine Last2.tk 4 26 (.pointer (some ⟨g, 0, none⟩)) S0 ?_
   simp only [Act.put, Last2.s0, Last2.s1, Last2.s2]
   refine Last2.tk 5 27 (.pointer (some ⟨ga, 0, none⟩)) S0 ?_
   simp only [Act.put, Last2.s0, Last2.s1, Last2.s2]
   refine Last2.tk 6 28 (.pointer (some ⟨ga, 0, none⟩)) S0 ?_
   simp only [Act.put, Last2.s0, Last2.s1, Last2.s2]
   refine Last2.tk 7 29 (.pointer (some ⟨ga, 4, none⟩)) S0 ?_
   simp only [Act.put, Last2.s0, Last2.s1, Last2.s2]
   refine Last2.tk 8 30 (.slice (some ⟨bc, 0, none⟩) cs.length cc) S0 ?_
   simp only [Act.put, Last2.s0, Last2.s1, Last2.s2]
   refine Last2.tk 9 31 (.pointer (some ⟨bx, 1, none⟩)) S0 ?_
   simp only [Act.put, Last2.s0, Last2.s1, Last2.s2]
   refine Last2.tk 10 32 (.int .i64 a) S0 ?_
   simp only [Act.put, Last2.s0, Last2.s1, Last2.s2]
   refine Last2.tk 11 33 (.pointer (some ⟨bc, a * 5, none⟩)) S0 ?_
   simp only [Act.put, Last2.s0, Last2.s1, Last2.s2]
   refine Last2.tk 12 34 (.pointer (some ⟨bc, a * 5 + 1, none⟩)) S0 ?_
   simp only [Act.put, Last2.s0, Last2.s1, Last2.s2]
   refine Last2.tk 13 35 (.int .i64 x.par) S0 ?_
   simp only [Act.put, Last2.s0, Last2.s1, Last2.s2]
   refine Last2.tk 14 36 (.pointer (some ⟨w.heap.size, j, none⟩)) S0 ?_
   simp only [Act.put, Last2.s0, Last2.s1, Last2.s2]
   refine Last2.last_one (i := 15) (o := { dst := none, op := .store 3 (.tmp 36) (.tmp 35), type := _, pos := _, after := _, guard := none }) (by kernel_rfl) rfl rfl (fun K hK => ?_)
   go_simp
   refine hK.out _ _ (fun h => (h (by decide)).elim) ?_
   clear hK K
   refine Last2.last_done (by kernel_rfl) ?_ _
   clear S0 hu0 fz
   have OY := Lib.hid (own_setI OX.out j x.par)
   have OD := Lib.hid (own_below (B' := (V.setCell ⟨w.heap.size, j, none⟩ (.int .i64 x.par)).heap.size) OY.out (Below.drew (Below.refl _ _)) (Nat.le_refl _))
   have BD := Lib.hid (Below.drew (BX.out.setCell (p := ⟨w.heap.size, j, none⟩) (Nat.le_refl _) (.int .i64 x.par)))
   clear OX BX OY
   go_wp2_with fail
   go_roundw
   case rel => exact ⟨j + 1, by omega, by go_num, by rw [← HNX.out]; exact OD.out, BD.out⟩
   case measure => simp [intOf]; omega
  ·obtain rfl : j = N := by omega
   have O := Lib.hid hown
   have HB := Lib.hid hb
   clear hown hb
   go_wp2_with fail
   go_ret
   have hO := O.out
   rw [Nat.sub_self, List.replicate_zero, List.append_nil, ← HN.out, List.take_length] at hO
   exact ⟨_, _, rfl, by unfold OwnI; rw [List.length_map]; rw [HN.out] at hO ⊢; exact hO, HB.out⟩
set_option maxRecDepth 100000 in
set_option maxHeartbeats 4000000 in
theorem savI_any (lo0 n c : Nat) (A : Option Addr) (p : Pg) (f arg fuel : Int) (hn : n ≤ 9223372036854775807) (hl : p.length = n) (hsm : Small p 9223372036854775807) (w : World) (ho : OwnP w lo0 (.slice A n c) p) :
  Calls Try.prog 43 #[.agg #[.slice A n c], .int .i64 f, .int .i64 arg, .int .i64 fuel] w (IntsR (savR p f arg fuel) w) := by
 have hq := Lib.hid (fun W (h : Below w.heap.size w W) => readPanics_any lo0 n c A p f arg fuel hn hl hsm W (ho.below h))
 have hal : ∀ o1 : Obj, Below w.heap.size w (w.alloc o1) := fun o1 => (Below.refl _ _).alloc (Nat.le_refl _) _
 have HALs := Lib.hid (hal (.cells #[.slice A n c] 31))
 have hMl := Nat.le_trans (tds_len (runR p f arg fuel).1.trace).2 (runR_len p f arg fuel)
 have hlens := panR_lens p f arg fuel
 have hpd := runR_pds p f arg fuel
 have hfd := runR_fds p f arg fuel
 have hr : savR p f arg fuel = (savL (runR p f arg fuel).1.trace (runR p f arg fuel).1.trace.length, (runR p f arg fuel).2) := by unfold savR; rfl
 rw [panR_runR] at hlens
 generalize runR p f arg fuel = r at *
 obtain ⟨⟨rk, rv, t, rs⟩, rb⟩ := r
 dsimp only at hMl hlens hpd hfd hr
 have HR := Lib.hid hr
 have HPD := Lib.hid hpd
 have HFD := Lib.hid hfd
 have HLENS := Lib.hid hlens
 clear ho hsm hal hpd hfd hr hlens
 go_enter Try.func43, Try.ntmps43
 go_wp2_with fail
 refine (hq.out _ HALs.out).mono ?_
 rintro e w2 ⟨g, ga, lo, k, v, s, At, ct, cv, ov, cur, hp, hf, ho, hr, i, rfl, hacc, hrd, hW, hS, hrec, hga, hg, hlo, hho, b2⟩
 dsimp only at hacc hS hrec
 have BB := Lib.hid (HALs.out.trans (b2.mono HALs.out.size))
 have HGA := Lib.hid hga
 have hsw := BB.out.size
 have HACC := Lib.hid (fun V (b : Below w2.heap.size w2 V) => hacc.below b)
 have HW := Lib.hid (fun V (b : Below w2.heap.size w2 V) => hW.below b)
 have HREC := Lib.hid hrec
 obtain ⟨hE, hA⟩ := rec_map HPD.out HFD.out hS hrec
 have hL : i.rec_.map (fun q : Int × Int => parOf (tds t).calls q.2) = savL t t.length := by
  unfold savL
  rw [← hrec, List.map_map]
  rfl
 have hNl : i.rec_.length ≤ 100000 := by rw [hS.rlen]; exact HLENS.out.rcv
 have HSV := Lib.hid (savedCalls_any hW hacc rfl hNl hA)
 have HLN := Lib.hid (show (savL t t.length).length = i.rec_.length by rw [← hL, List.length_map])
 rw [hL] at HSV
 clear hacc hrd hW hS hrec hga hho b2 hq hE hA hL
 go_wp2_with fail
 refine HSV.out.mono ?_
 rintro e w4 ⟨A4, c4, rfl, o4, b4⟩
 have O4 := Lib.hid (show w4.ownsRow w2.heap.size 3 1 (.slice A4 i.rec_.length c4) i.rec_.length (cellsI (savL t t.length)) from (by have := o4; unfold OwnI at this; rwa [HLN.out] at this))
 have B4 := Lib.hid (BB.out.trans (b4.mono hsw))
 clear o4 b4 HSV
 go_wp2_with fail
 go_ret2
 exact ⟨A4, c4, by rw [HR.out]; dsimp only; rw [HLN.out] <;> rfl, by rw [HR.out]; dsimp only; unfold OwnI; rw [HLN.out]; exact own_mono O4.out hsw, B4.out⟩
end Go.Proofs.Ytgcjlkdahlfjlaa.Svi
-- squeezed
