/- impl's RecoveredBy. (Written by wip/tools/genirg.py.) -/
import Derived.Test.YtgcjlkdahlfjlaaIrf
import Derived.Test.YtgcjlkdahlfjlaaIpr
namespace Go.Proofs.Ytgcjlkdahlfjlaa.Irg
set_option linter.unusedVariables false
set_option linter.unusedSimpArgs false
open Go.ChangeShapes Go.WideShapes Go.ChangeAt Go.RowKit
open PL Mem Srun Sst IntsP RowA RowC AccP Swhole Pw Px Ipm Ise Iex Irc Ipa Iun Irs To OwnS AskP Res Sout Irp RunF AcctP TreeP LawI LawA LawN Po Irf

theorem set_nextG {α β : Type} {xs : List α} {φ : α → β} {z : β} {n j : Nat} {x : α} (hx : xs[j]? = some x) (hn : xs.length = n) : ((xs.take j).map φ ++ List.replicate (n - j) z).set j (φ x) = (xs.take (j + 1)).map φ ++ List.replicate (n - (j + 1)) z := by
 have hj : j < xs.length := (List.getElem?_eq_some_iff.1 hx).1
 have hl : ((xs.take j).map φ).length = j := by rw [List.length_map, List.length_take]; omega
 rw [List.set_append_right _ _ (by omega), hl, Nat.sub_self, show n - j = n - (j + 1) + 1 by omega, List.replicate_succ, List.set_cons_zero, List.take_add_one, hx, List.map_append, List.append_assoc]
 rfl
theorem at_nextG {α β : Type} {xs : List α} {φ : α → β} {z : β} {n j : Nat} (hj : j < n) (hn : xs.length = n) : ((xs.take j).map φ ++ List.replicate (n - j) z)[j]? = some z := by
 have hl : ((xs.take j).map φ).length = j := by rw [List.length_map, List.length_take]; omega
 rw [List.getElem?_append_right (by omega), hl, Nat.sub_self, List.getElem?_replicate, if_pos (by omega)]
theorem made2_const (v : Value) (n : Nat) : (madeCells #[v, v] n).toList = List.replicate n v := by
 apply List.ext_getElem
 ·simp [madeCells]
 ·intro i h1 h2
  simp only [madeCells, Array.toList_map, Array.toList_range, List.getElem_map, List.getElem_range, List.getElem_replicate]
  have hk : i % 2 < 2 := Nat.mod_lt _ (by decide)
  show #[v, v][i % 2]! = v
  generalize i % 2 = k at hk
  match k, hk with
  | 0, _ => rfl
  | 1, _ => rfl
theorem made2_rows : ∀ M : Nat, (List.replicate M ((0, 0) : Pr)).flatMap c2 = List.replicate (M * 2) (.int .i64 0)
 | 0 => rfl
 | M + 1 => by
  rw [List.replicate_succ, List.flatMap_cons, made2_rows M, Nat.succ_mul]
  simp only [List.replicate_succ]
  rfl
theorem made2_own (W : World) (M : Nat) (hM : M ≤ 100000) : (W.alloc (.cells (madeCells #[.int .i64 0, .int .i64 0] (M * 2)) 94)).ownsRow W.heap.size 94 2 (.slice (some ⟨W.heap.size, 0, none⟩) M M) M ((List.replicate M ((0, 0) : Pr)).flatMap c2) := by
 have := World.ownsRow_lit (base := W.heap.size) (e := 94) (size := 2) W (madeCells #[.int .i64 0, .int .i64 0] (M * 2)) M (Nat.le_refl _) (by unfold maxLen; omega) (size_madeCells _ _)
 rw [made2_const] at this
 rw [made2_rows]
 exact this
theorem c2_len (s : Pr) : (c2 s).length = 2 := rfl
theorem rc_form {V : World} {lo g ga : Nat} {hp hf ho hr : Hd} {i : IS} (h : IW V lo g ga hp hf ho hr i) (hl : 0 < i.rec_.length) : ∃ b, b < V.heap.size ∧ hr.A = some ⟨b, 0, none⟩ := by
 rcases own_form h.rec_ with ⟨h0, _⟩ | ⟨_, b, cap, hv, hb1, hb2⟩
 ·omega
 ·simp only [Value.slice.injEq, true_and] at hv
  exact ⟨b, hb2, hv.1⟩
set_option maxRecDepth 100000 in
set_option maxHeartbeats 4000000 in
theorem rcbI_any (lo0 n c : Nat) (A : Option Addr) (p : Pg) (f arg fuel : Int) (hn : n ≤ 9223372036854775807) (hl : p.length = n) (hsm : Small p 9223372036854775807) (w : World) (ho : OwnP w lo0 (.slice A n c) p) :
  Calls Try.prog 30 #[.agg #[.slice A n c], .int .i64 f, .int .i64 arg, .int .i64 fuel] w (PrsR (rcbR p f arg fuel) w) := by
 obtain ⟨i0, hi, hz0, hz1, hz2⟩ := info_parts infoP2
 have hq := Lib.hid (fun W (h : Below w.heap.size w W) => readPanics_any lo0 n c A p f arg fuel hn hl hsm W (ho.below h))
 have hal : ∀ o1 : Obj, Below w.heap.size w (w.alloc o1) := fun o1 => (Below.refl _ _).alloc (Nat.le_refl _) _
 have HALs := Lib.hid (hal (.cells #[.slice A n c] 31))
 have hMl := Nat.le_trans (tds_len (runR p f arg fuel).1.trace).2 (runR_len p f arg fuel)
 have hlens := panR_lens p f arg fuel
 have hpd := runR_pds p f arg fuel
 have hfd := runR_fds p f arg fuel
 have hr : rcbR p f arg fuel = ((mds (runR p f arg fuel).1.trace).rcv, (runR p f arg fuel).2) := by unfold rcbR; rw [panR_runR]
 rw [panR_runR] at hlens
 generalize runR p f arg fuel = r at *
 obtain ⟨⟨rk, rv, t, rs⟩, rb⟩ := r
 dsimp only at hMl hlens hpd hfd hr
 have HR := Lib.hid hr
 have HPD := Lib.hid hpd
 have HFD := Lib.hid hfd
 have HLENS := Lib.hid hlens
 clear ho hsm hal hpd hfd hr hlens
 go_enter Try.func30, Try.ntmps30
 go_wp2_with fail
 refine (hq.out _ HALs.out).mono ?_
 rintro e w2 ⟨g, ga, lo, k, v, s, At, ct, cv, ov, cur, hp, hf, ho, hr, i, rfl, hacc, hrd, hW, hS, hrec, hga, hg, hlo, hho, b2⟩
 dsimp only at hacc hS hrec
 have BB := Lib.hid (HALs.out.trans (b2.mono HALs.out.size))
 have HGA := Lib.hid hga
 have hsw := BB.out.size
 have HACC := Lib.hid (fun V (b : Below w2.heap.size w2 V) => hacc.below b)
 have HW := Lib.hid (fun V (b : Below w2.heap.size w2 V) => hW.below b)
 have HREC := Lib.hid hrec
 obtain ⟨N, hN⟩ : ∃ N, i.rec_.length = N := ⟨_, rfl⟩
 have hNl : N ≤ 100000 := by rw [← hN, hS.rlen]; exact HLENS.out.rcv
 obtain ⟨hE, hA⟩ := rec_map HPD.out HFD.out hS hrec
 have HE := Lib.hid hE
 have HAA := Lib.hid hA
 have q4 : w2.cell? ⟨g, 4, none⟩ = some (.slice hr.A N hr.c) := hN ▸ hW.blk.cells 4
 have hmk := fun W => run_make_rowN (P := Try.prog) 44 94 i0 _ Try.underlying44 hi hz0 .i64 .i64 N N (Nat.le_refl _) (by rw [hz2]; omega) (by omega) W
 rw [hz1] at hmk
 have HN := Lib.hid hN
 have hgl := hW.lt
 have hgal := hacc.lt
 have q4' : ∀ o, (w2.alloc o).cell? ⟨g, 4, none⟩ = some (.slice hr.A N hr.c) := fun o => hN ▸ (hW.below ((Below.refl _ _).alloc (Nat.le_refl _) _)).blk.cells 4
 clear hacc hrd hW hS hrec hga hho b2 hq hN hE hA
 go_wp2_with fail
 go_loopw [34] (fun v wr => ∃ j : Nat, j ≤ N ∧ v = .int .i64 j ∧ wr.ownsRow w2.heap.size 94 2 (.slice (some ⟨w2.heap.size, 0, none⟩) N N) N (((i.rec_.take j).map (fun q => (q.1, fnOf (tds t).calls q.2)) ++ List.replicate (N - j) ((0, 0) : Pr)).flatMap c2) ∧ Below w2.heap.size w2 wr) (fun v _ => N - (intOf v).toNat)
 case atStart =>
  refine ⟨0, Nat.zero_le _, rfl, ?_, (Below.refl _ _).alloc (Nat.le_refl _) _⟩
  simpa using made2_own w2 N hNl
 case round =>
  obtain ⟨j, hj, rfl, hown, hb⟩ := hrel
  clear q4 q4' hmk
  have hsz := hb.size
  by_cases hlt : j < N
  ·obtain ⟨⟨qn, qc⟩, hq⟩ : ∃ q, i.rec_[j]? = some q := ⟨_, List.getElem?_eq_getElem (by rw [HN.out]; exact hlt)⟩
   obtain ⟨a, ha, hal⟩ := HAA.out _ (List.mem_of_getElem? hq)
   dsimp only at ha
   subst ha
   obtain ⟨x, hx⟩ : ∃ x, (tds t).calls[a]? = some x := ⟨_, List.getElem?_eq_getElem hal⟩
   have hWr := HW.out wr hb
   obtain ⟨br, hbr, hA⟩ := rc_form hWr (by rw [HN.out]; omega)
   obtain ⟨Ar, cr⟩ := hr
   dsimp only at hA
   subst hA
   have k0 := row_at q2_len hWr.rec_ hq (o := 0) (by decide) rfl
   have k1 := row_at q2_len hWr.rec_ hq (o := 1) (by decide) rfl
   have HNX := Lib.hid (show ((i.rec_.take j).map (fun q => (q.1, fnOf (tds t).calls q.2)) ++ List.replicate (N - j) ((0, 0) : Pr)).set j (qn, x.f) = (i.rec_.take (j + 1)).map (fun q => (q.1, fnOf (tds t).calls q.2)) ++ List.replicate (N - (j + 1)) ((0, 0) : Pr) from (by
    have := set_nextG (φ := fun q : Int × Int => (q.1, fnOf (tds t).calls q.2)) (z := ((0, 0) : Pr)) hq HN.out
    dsimp only at this
    rw [show fnOf (tds t).calls ((a : Nat) : Int) = x.f from by unfold fnOf; rw [Int.toNat_natCast, hx]] at this
    exact this))
   have HAT := Lib.hid (at_nextG (φ := fun q : Int × Int => (q.1, fnOf (tds t).calls q.2)) (z := ((0, 0) : Pr)) hlt HN.out)
   have HLL := Lib.hid (show ((i.rec_.take j).map (fun q => (q.1, fnOf (tds t).calls q.2)) ++ List.replicate (N - j) ((0, 0) : Pr)).length = N by rw [List.length_append, List.length_map, List.length_take, List.length_replicate, HN.out]; omega)
   generalize (i.rec_.take j).map (fun q => (q.1, fnOf (tds t).calls q.2)) ++ List.replicate (N - j) ((0, 0) : Pr) = L at *
   have O := Lib.hid hown
   have HB := Lib.hid hb
   have HX := Lib.hid hx
   replace k0 : wr.cell? ⟨br, j * 2, none⟩ = some (.int .i64 qn) := k0
   replace k1 : wr.cell? ⟨br, j * 2 + 1, none⟩ = some (.int .i64 (a : Int)) := k1
   clear hWr hown hb hq hx
   go_upto_region 6 with fail
   change (fun V => Code.wp _ _ _ _ V) _
   refine gen_world (X := fun V => Blk V wr.heap.size 85 #[.int .i64 qn, .int .i64 a] ∧ V.ownsRow w2.heap.size 94 2 (.slice (some ⟨w2.heap.size, 0, none⟩) N N) N (L.flatMap c2) ∧ Below w2.heap.size w2 V) ⟨heap1_0 wr _, own_below (B' := wr.heap.size) O.out ((Below.refl _ _).alloc (Nat.le_refl _) _) (Nat.le_refl _), HB.out.alloc hsz _⟩ ?_
   clear HB O k0 k1
   generalize wr.heap.size = bx at *
   rintro V ⟨eX, oX, bX⟩
   have aV := HACC.out V bX
   obtain ⟨bc, cc, hbc1, hbc2, hcv⟩ := call_form aV (by omega)
   subst hcv
   have wV := HW.out V bX
   obtain ⟨xf, -, -, -, -⟩ := own_cell5 aV.calls HX.out
   have u0 := row_at c2_len oX HAT.out (o := 0) (by decide) HLL.out
   have u1 := row_at c2_len oX HAT.out (o := 1) (by decide) HLL.out
   replace u0 : V.cell? ⟨w2.heap.size, j * 2, none⟩ = some (.int .i64 0) := u0
   replace u1 : V.cell? ⟨w2.heap.size, j * 2 + 1, none⟩ = some (.int .i64 0) := u1
   have fz := oX.frozenAt
   have S0 : (fun V : World => V.cell? ⟨bx, 0, none⟩ = some (.int .i64 qn) ∧ V.cell? ⟨bx, 1, none⟩ = some (.int .i64 a) ∧ V.cell? ⟨g, 0, none⟩ = some (.pointer (some ⟨ga, 0, none⟩)) ∧ V.cell? ⟨ga, 4, none⟩ = some (.slice (some ⟨bc, 0, none⟩) (tds t).calls.length cc) ∧ V.cell? ⟨bc, a * 5, none⟩ = some (.int .i64 x.f)) V.drew := ⟨eX.cells 0, eX.cells 1, wV.blk.cells 0, aV.blk.cells 4, xf⟩
   have OX := Lib.hid oX
   have BX := Lib.hid bX
   clear eX oX bX aV wV xf
   refine Last2.region_last [18] (fun V : World => V.cell? ⟨bx, 0, none⟩ = some (.int .i64 qn) ∧ V.cell? ⟨bx, 1, none⟩ = some (.int .i64 a) ∧ V.cell? ⟨g, 0, none⟩ = some (.pointer (some ⟨ga, 0, none⟩)) ∧ V.cell? ⟨ga, 4, none⟩ = some (.slice (some ⟨bc, 0, none⟩) (tds t).calls.length cc) ∧ V.cell? ⟨bc, a * 5, none⟩ = some (.int .i64 x.f)) (by kernel_rfl) ?_
   refine Last2.tk 0 39 (.slice (some ⟨w2.heap.size, 0, none⟩) N N) S0 ?_
   simp only [Act.put, Last2.s0, Last2.s1, Last2.s2]
   refine Last2.tk 1 40 (.int .i64 j) S0 ?_
   simp only [Act.put, Last2.s0, Last2.s1, Last2.s2]
   refine Last2.tk 2 41 (.pointer (some ⟨bx, 0, none⟩)) S0 ?_
   simp only [Act.put, Last2.s0, Last2.s1, Last2.s2]
   refine Last2.tk 3 42 (.int .i64 qn) S0 ?_
   simp only [Act.put, Last2.s0, Last2.s1, Last2.s2]
   refine Last2.tk 4 43 (.pointer (some ⟨g, 0, none⟩)) S0 ?_
   simp only [Act.put, Last2.s0, Last2.s1, Last2.s2]
   refine Last2.tk 5 44 (.pointer (some ⟨g, 0, none⟩)) S0 ?_
   simp only [Act.put, Last2.s0, Last2.s1, Last2.s2]
   refine Last2.tk 6 45 (.pointer (some ⟨g, 0, none⟩)) S0 ?_
   simp only [Act.put, Last2.s0, Last2.s1, Last2.s2]
   refine Last2.tk 7 46 (.pointer (some ⟨ga, 0, none⟩)) S0 ?_
   simp only [Act.put, Last2.s0, Last2.s1, Last2.s2]
   refine Last2.tk 8 47 (.pointer (some ⟨ga, 0, none⟩)) S0 ?_
   simp only [Act.put, Last2.s0, Last2.s1, Last2.s2]
   refine Last2.tk 9 48 (.pointer (some ⟨ga, 4, none⟩)) S0 ?_
   simp only [Act.put, Last2.s0, Last2.s1, Last2.s2]
   refine Last2.tk 10 49 (.slice (some ⟨bc, 0, none⟩) (tds t).calls.length cc) S0 ?_
   simp only [Act.put, Last2.s0, Last2.s1, Last2.s2]
   refine Last2.tk 11 50 (.pointer (some ⟨bx, 1, none⟩)) S0 ?_
   simp only [Act.put, Last2.s0, Last2.s1, Last2.s2]
   refine Last2.tk 12 51 (.int .i64 a) S0 ?_
   simp only [Act.put, Last2.s0, Last2.s1, Last2.s2]
   refine Last2.tk 13 52 (.pointer (some ⟨bc, a * 5, none⟩)) S0 ?_
   simp only [Act.put, Last2.s0, Last2.s1, Last2.s2]
   refine Last2.tk 14 53 (.pointer (some ⟨bc, a * 5, none⟩)) S0 ?_
   simp only [Act.put, Last2.s0, Last2.s1, Last2.s2]
   refine Last2.tk 15 54 (.int .i64 x.f) S0 ?_
   simp only [Act.put, Last2.s0, Last2.s1, Last2.s2]
   refine Last2.tk 16 55 (.agg #[.int .i64 qn, .int .i64 x.f]) S0 ?_
   simp only [Act.put, Last2.s0, Last2.s1, Last2.s2]
   refine Last2.tk 17 56 (.pointer (some ⟨w2.heap.size, j * 2, none⟩)) S0 ?_
   simp only [Act.put, Last2.s0, Last2.s1, Last2.s2]
   refine Last2.last_one (i := 18) (o := { dst := none, op := .store 94 (.tmp 56) (.tmp 55), type := _, pos := _, after := _, guard := none }) (by kernel_rfl) rfl rfl (fun K hK => ?_)
   go_simp
   refine hK.out _ _ (fun h => (h (by decide)).elim) ?_
   clear hK K
   refine Last2.last_done (by kernel_rfl) ?_ _
   clear S0 u0 u1 fz
   have OY := Lib.hid (show ((V.setCell ⟨w2.heap.size, j * 2, none⟩ (.int .i64 qn)).setCell ⟨w2.heap.size, j * 2 + 1, none⟩ (.int .i64 x.f)).ownsRow w2.heap.size 94 2 (.slice (some ⟨w2.heap.size, 0, none⟩) N N) N ((L.set j (qn, x.f)).flatMap c2) from (by
    have hjl : j < L.length := (List.getElem?_eq_some_iff.1 HAT.out).1
    have e1 := row_put c2_len OX.out HAT.out 0 (.int .i64 qn) ((qn, 0) : Pr) (by decide) rfl
    have e2 := row_put c2_len e1 (List.getElem?_set_self hjl) 1 (.int .i64 x.f) ((qn, x.f) : Pr) (by decide) rfl
    rwa [List.set_set] at e2))
   have BY := Lib.hid ((BX.out.setCell (p := ⟨w2.heap.size, j * 2, none⟩) (Nat.le_refl _) (.int .i64 qn)).setCell (p := ⟨w2.heap.size, j * 2 + 1, none⟩) (Nat.le_refl _) (.int .i64 x.f))
   have OD := Lib.hid (own_below (B' := ((V.setCell ⟨w2.heap.size, j * 2, none⟩ (.int .i64 qn)).setCell ⟨w2.heap.size, j * 2 + 1, none⟩ (.int .i64 x.f)).heap.size) OY.out (Below.drew (Below.refl _ _)) (Nat.le_refl _))
   have BD := Lib.hid (Below.drew BY.out)
   clear OX BX OY BY
   go_wp2_with fail
   go_roundw
   case rel => exact ⟨j + 1, by omega, by go_num, by rw [← HNX.out]; exact OD.out, BD.out⟩
   case measure => simp [intOf]; omega
  ·obtain rfl : j = N := by omega
   have O := Lib.hid hown
   have HB := Lib.hid hb
   clear hown hb
   go_wp2_with fail
   go_ret2
   have e1 : (i.rec_.take j).map (fun q => (q.1, fnOf (tds t).calls q.2)) = (mds t).rcv := by rw [← HN.out, List.take_length]; exact HE.out
   have e2 : (mds t).rcv.length = j := by rw [← HE.out, List.length_map]; exact HN.out
   have hO := O.out
   rw [Nat.sub_self, List.replicate_zero, List.append_nil, e1] at hO
   exact ⟨_, _, by rw [HR.out]; dsimp only; rw [e2] <;> rfl, by rw [HR.out]; dsimp only; rw [e2]; unfold OwnA; rw [e2]; exact own_mono hO hsw, BB.out.trans (HB.out.mono hsw)⟩
end Go.Proofs.Ytgcjlkdahlfjlaa.Irg
-- squeezed
