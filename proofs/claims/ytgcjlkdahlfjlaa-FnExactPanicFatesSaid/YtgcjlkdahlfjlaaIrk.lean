/- impl's PanicFates. (Written by wip/tools/genirg.py.) -/
import Derived.Test.YtgcjlkdahlfjlaaIrf
import Derived.Test.YtgcjlkdahlfjlaaPq
namespace Go.Proofs.Ytgcjlkdahlfjlaa.Irk
set_option linter.unusedVariables false
set_option linter.unusedSimpArgs false
open Go.ChangeShapes Go.WideShapes Go.ChangeAt Go.RowKit
open PL Mem Srun Sst IntsP RowA RowC AccP Swhole Pw Px Ipm Ise Iex Irc Ipa Iun Irs To OwnS AskP Res Sout Irp RunF AcctP TreeP LawI LawA LawN Po PMem Pq Irf

theorem set_nextG {α β : Type} {xs : List α} {φ : α → β} {z : β} {n j : Nat} {x : α} (hx : xs[j]? = some x) (hn : xs.length = n) : ((xs.take j).map φ ++ List.replicate (n - j) z).set j (φ x) = (xs.take (j + 1)).map φ ++ List.replicate (n - (j + 1)) z := by
 have hj : j < xs.length := (List.getElem?_eq_some_iff.1 hx).1
 have hl : ((xs.take j).map φ).length = j := by rw [List.length_map, List.length_take]; omega
 rw [List.set_append_right _ _ (by omega), hl, Nat.sub_self, show n - j = n - (j + 1) + 1 by omega, List.replicate_succ, List.set_cons_zero, List.take_add_one, hx, List.map_append, List.append_assoc]
 rfl
theorem at_nextG {α β : Type} {xs : List α} {φ : α → β} {z : β} {n j : Nat} (hj : j < n) (hn : xs.length = n) : ((xs.take j).map φ ++ List.replicate (n - j) z)[j]? = some z := by
 have hl : ((xs.take j).map φ).length = j := by rw [List.length_map, List.length_take]; omega
 rw [List.getElem?_append_right (by omega), hl, Nat.sub_self, List.getElem?_replicate, if_pos (by omega)]
theorem made3_const (v : Value) (n : Nat) : (madeCells #[v, v, v] n).toList = List.replicate n v := by
 apply List.ext_getElem
 ·simp [madeCells]
 ·intro i h1 h2
  simp only [madeCells, Array.toList_map, Array.toList_range, List.getElem_map, List.getElem_range, List.getElem_replicate]
  have hk : i % 3 < 3 := Nat.mod_lt _ (by decide)
  show #[v, v, v][i % 3]! = v
  generalize i % 3 = k at hk
  match k, hk with
  | 0, _ => rfl
  | 1, _ => rfl
  | 2, _ => rfl
theorem made3_rows : ∀ M : Nat, (List.replicate M ((0, 0, 0) : Tr)).flatMap c3 = List.replicate (M * 3) (.int .i64 0)
 | 0 => rfl
 | M + 1 => by
  rw [List.replicate_succ, List.flatMap_cons, made3_rows M, Nat.succ_mul]
  simp only [List.replicate_succ]
  rfl
theorem made3_own (W : World) (M : Nat) (hM : M ≤ 100000) : (W.alloc (.cells (madeCells #[.int .i64 0, .int .i64 0, .int .i64 0] (M * 3)) 79)).ownsRow W.heap.size 79 3 (.slice (some ⟨W.heap.size, 0, none⟩) M M) M ((List.replicate M ((0, 0, 0) : Tr)).flatMap c3) := by
 have := World.ownsRow_lit (base := W.heap.size) (e := 79) (size := 3) W (madeCells #[.int .i64 0, .int .i64 0, .int .i64 0] (M * 3)) M (Nat.le_refl _) (by unfold maxLen; omega) (size_madeCells _ _)
 rw [made3_const] at this
 rw [made3_rows]
 exact this
theorem c3_len (s : Tr) : (c3 s).length = 3 := rfl
set_option maxRecDepth 100000 in
set_option maxHeartbeats 4000000 in
theorem pftI_any (lo0 n c : Nat) (A : Option Addr) (p : Pg) (f arg fuel : Int) (hn : n ≤ 9223372036854775807) (hl : p.length = n) (hsm : Small p 9223372036854775807) (w : World) (ho : OwnP w lo0 (.slice A n c) p) :
  Calls Try.prog 18 #[.agg #[.slice A n c], .int .i64 f, .int .i64 arg, .int .i64 fuel] w (T3R (pftR p f arg fuel) w) := by
 obtain ⟨i0, hi, hz0, hz1, hz2⟩ := info_parts infoT3
 have hq := Lib.hid (fun W (h : Below w.heap.size w W) => readPanics_any lo0 n c A p f arg fuel hn hl hsm W (ho.below h))
 have hal : ∀ o1 : Obj, Below w.heap.size w (w.alloc o1) := fun o1 => (Below.refl _ _).alloc (Nat.le_refl _) _
 have HALs := Lib.hid (hal (.cells #[.slice A n c] 31))
 have hMl := Nat.le_trans (tds_len (runR p f arg fuel).1.trace).2 (runR_len p f arg fuel)
 have hlens := panR_lens p f arg fuel
 have hpd := runR_pds p f arg fuel
 have hfd := runR_fds p f arg fuel
 have hr : pftR p f arg fuel = ((mds (runR p f arg fuel).1.trace).pan.map p3, (runR p f arg fuel).2) := by unfold pftR; rw [panR_runR]
 rw [panR_runR] at hlens
 generalize runR p f arg fuel = r at *
 obtain ⟨⟨rk, rv, t, rs⟩, rb⟩ := r
 dsimp only at hMl hlens hpd hfd hr
 have HR := Lib.hid hr
 have HPD := Lib.hid hpd
 have HFD := Lib.hid hfd
 have HLENS := Lib.hid hlens
 clear ho hsm hal hpd hfd hr hlens
 go_enter Try.func18, Try.ntmps18
 go_wp2_with fail
 refine (hq.out _ HALs.out).mono ?_
 rintro e w2 ⟨g, ga, lo, k, v, s, At, ct, cv, ov, cur, hp, hf, ho, hr, i, rfl, hacc, hrd, hW, hS, hrec, hga, hg, hlo, hho, b2⟩
 dsimp only at hacc hS hrec
 have BB := Lib.hid (HALs.out.trans (b2.mono HALs.out.size))
 have HGA := Lib.hid hga
 have hsw := BB.out.size
 have HACC := Lib.hid (fun V (b : Below w2.heap.size w2 V) => hacc.below b)
 have HW := Lib.hid (fun V (b : Below w2.heap.size w2 V) => hW.below b)
 have HREC := Lib.hid hrec
 obtain ⟨N, hN⟩ : ∃ N, i.pans.length = N := ⟨_, rfl⟩
 have hNl : N ≤ 100000 := by rw [← hN, hS.plen]; exact HLENS.out.pan
 have HPA := Lib.hid (fun (j : Nat) (x : PF) (hx : (mds t).pan[j]? = some x) => pan_at hS hx)
 have HFO := Lib.hid hS.forts
 have HPN := Lib.hid (show (mds t).pan.length = N by rw [← hS.plen]; exact hN)
 have HFN := Lib.hid (show i.forts.length = N by rw [hS.flen, ← hS.plen]; exact hN)
 have q1 : w2.cell? ⟨g, 1, none⟩ = some (.slice hp.A N hp.c) := hN ▸ hW.blk.cells 1
 have hmk := fun W => run_make_rowN (P := Try.prog) 26 79 i0 _ Try.underlying26 hi hz0 .i64 .i64 N N (Nat.le_refl _) (by rw [hz2]; omega) (by omega) W
 rw [hz1] at hmk
 have HN := Lib.hid hN
 have hgl := hW.lt
 have q1' : ∀ o, (w2.alloc o).cell? ⟨g, 1, none⟩ = some (.slice hp.A N hp.c) := fun o => hN ▸ (hW.below ((Below.refl _ _).alloc (Nat.le_refl _) _)).blk.cells 1
 generalize mds t = sm at *
 clear hacc hrd hW hS hrec hga hho b2 hq hN
 go_wp2_with fail
 go_loopw [34] (fun v wr => ∃ j : Nat, j ≤ N ∧ v = .int .i64 j ∧ wr.ownsRow w2.heap.size 79 3 (.slice (some ⟨w2.heap.size, 0, none⟩) N N) N (((sm.pan.take j).map p3 ++ List.replicate (N - j) ((0, 0, 0) : Tr)).flatMap c3) ∧ Below w2.heap.size w2 wr) (fun v _ => N - (intOf v).toNat)
 case atStart =>
  refine ⟨0, Nat.zero_le _, rfl, ?_, (Below.refl _ _).alloc (Nat.le_refl _) _⟩
  simpa using made3_own w2 N hNl
 case round =>
  obtain ⟨j, hj, rfl, hown, hb⟩ := hrel
  clear q1 q1' hmk
  have hsz := hb.size
  by_cases hlt : j < N
  ·obtain ⟨x, hx⟩ : ∃ x, sm.pan[j]? = some x := ⟨_, List.getElem?_eq_getElem (by rw [HPN.out]; exact hlt)⟩
   have hz := HPA.out j x hx
   have hy : i.forts[j]? = some (fo x) := by rw [HFO.out, List.getElem?_map, hx]; rfl
   have hWr := HW.out wr hb
   obtain ⟨bp, hbp, hA⟩ := pa_form hWr (by rw [HN.out]; omega)
   obtain ⟨Ap, cp⟩ := hp
   dsimp only at hA
   subst hA
   obtain ⟨bf, hbf1, hbf2, hA⟩ := fo_form hWr (by rw [HFN.out]; omega)
   obtain ⟨Af, cf⟩ := hf
   dsimp only at hA
   subst hA
   obtain ⟨k0, k1, k2, k3, k4⟩ := row_z hWr.pans rfl hz
   dsimp only at k0 k1 k2 k3 k4
   have HNX := Lib.hid (set_nextG (φ := p3) (z := ((0, 0, 0) : Tr)) hx HPN.out)
   have HAT := Lib.hid (at_nextG (φ := p3) (z := ((0, 0, 0) : Tr)) hlt HPN.out)
   have HLL := Lib.hid (show ((sm.pan.take j).map p3 ++ List.replicate (N - j) ((0, 0, 0) : Tr)).length = N by rw [List.length_append, List.length_map, List.length_take, List.length_replicate, HPN.out]; omega)
   generalize (sm.pan.take j).map p3 ++ List.replicate (N - j) ((0, 0, 0) : Tr) = L at *
   have O := Lib.hid hown
   have HB := Lib.hid hb
   have HY := Lib.hid hy
   obtain ⟨zf, hzf⟩ : ∃ zf, x.f = zf := ⟨_, rfl⟩
   obtain ⟨zv, hzv⟩ : ∃ zv, x.v = zv := ⟨_, rfl⟩
   have HP3 := Lib.hid (show p3 x = (zf, zv, x.fate) by unfold p3; rw [hzf, hzv])
   rw [hzf] at k1
   rw [hzv] at k2
   clear hWr hown hb hx hy hz hzf hzv
   go_upto_region 6 with fail
   change (fun V => Code.wp _ _ _ _ V) _
   refine gen_world (X := fun V => Blk V wr.heap.size 76 #[.int .i64 5, .int .i64 zf, .int .i64 zv, .int .i64 j, .int .i64 x.call] ∧ V.ownsRow w2.heap.size 79 3 (.slice (some ⟨w2.heap.size, 0, none⟩) N N) N (L.flatMap c3) ∧ Below w2.heap.size w2 V) ⟨heap1_0 wr _, own_below (B' := wr.heap.size) O.out ((Below.refl _ _).alloc (Nat.le_refl _) _) (Nat.le_refl _), HB.out.alloc hsz _⟩ ?_
   clear HB O k0 k1 k2 k3 k4
   generalize wr.heap.size = bx at *
   rintro V ⟨eX, oX, bX⟩
   have wV := HW.out V bX
   obtain ⟨f0, -, -, -⟩ := fo_cells wV HY.out
   have u0 := row_at c3_len oX HAT.out (o := 0) (by decide) HLL.out
   have u1 := row_at c3_len oX HAT.out (o := 1) (by decide) HLL.out
   have u2 := row_at c3_len oX HAT.out (o := 2) (by decide) HLL.out
   replace u0 : V.cell? ⟨w2.heap.size, j * 3, none⟩ = some (.int .i64 0) := u0
   replace u1 : V.cell? ⟨w2.heap.size, j * 3 + 1, none⟩ = some (.int .i64 0) := u1
   replace u2 : V.cell? ⟨w2.heap.size, j * 3 + 2, none⟩ = some (.int .i64 0) := u2
   have fz := oX.frozenAt
   have S0 : (fun V : World => V.cell? ⟨bx, 1, none⟩ = some (.int .i64 zf) ∧ V.cell? ⟨bx, 2, none⟩ = some (.int .i64 zv) ∧ V.cell? ⟨g, 2, none⟩ = some (.slice (some ⟨bf, 0, none⟩) N cf) ∧ V.cell? ⟨bf, j * 4, none⟩ = some (.int .i64 x.fate)) V.drew := ⟨eX.cells 1, eX.cells 2, HFN.out ▸ wV.blk.cells 2, f0⟩
   have OX := Lib.hid oX
   have BX := Lib.hid bX
   clear eX oX bX wV f0
   refine Last2.region_last [18] (fun V : World => V.cell? ⟨bx, 1, none⟩ = some (.int .i64 zf) ∧ V.cell? ⟨bx, 2, none⟩ = some (.int .i64 zv) ∧ V.cell? ⟨g, 2, none⟩ = some (.slice (some ⟨bf, 0, none⟩) N cf) ∧ V.cell? ⟨bf, j * 4, none⟩ = some (.int .i64 x.fate)) (by kernel_rfl) ?_
   refine Last2.tk 0 39 (.slice (some ⟨w2.heap.size, 0, none⟩) N N) S0 ?_
   simp only [Act.put, Last2.s0, Last2.s1, Last2.s2]
   refine Last2.tk 1 40 (.int .i64 j) S0 ?_
   simp only [Act.put, Last2.s0, Last2.s1, Last2.s2]
   refine Last2.tk 2 41 (.pointer (some ⟨bx, 0, none⟩)) S0 ?_
   simp only [Act.put, Last2.s0, Last2.s1, Last2.s2]
   refine Last2.tk 3 42 (.pointer (some ⟨bx, 1, none⟩)) S0 ?_
   simp only [Act.put, Last2.s0, Last2.s1, Last2.s2]
   refine Last2.tk 4 43 (.int .i64 zf) S0 ?_
   simp only [Act.put, Last2.s0, Last2.s1, Last2.s2]
   refine Last2.tk 5 44 (.pointer (some ⟨bx, 0, none⟩)) S0 ?_
   simp only [Act.put, Last2.s0, Last2.s1, Last2.s2]
   refine Last2.tk 6 45 (.pointer (some ⟨bx, 2, none⟩)) S0 ?_
   simp only [Act.put, Last2.s0, Last2.s1, Last2.s2]
   refine Last2.tk 7 46 (.int .i64 zv) S0 ?_
   simp only [Act.put, Last2.s0, Last2.s1, Last2.s2]
   refine Last2.tk 8 47 (.pointer (some ⟨g, 0, none⟩)) S0 ?_
   simp only [Act.put, Last2.s0, Last2.s1, Last2.s2]
   refine Last2.tk 9 48 (.pointer (some ⟨g, 0, none⟩)) S0 ?_
   simp only [Act.put, Last2.s0, Last2.s1, Last2.s2]
   refine Last2.tk 10 49 (.pointer (some ⟨g, 2, none⟩)) S0 ?_
   simp only [Act.put, Last2.s0, Last2.s1, Last2.s2]
   refine Last2.tk 11 50 (.slice (some ⟨bf, 0, none⟩) N cf) S0 ?_
   simp only [Act.put, Last2.s0, Last2.s1, Last2.s2]
   refine Last2.tk 12 51 (.int .i64 j) S0 ?_
   simp only [Act.put, Last2.s0, Last2.s1, Last2.s2]
   refine Last2.tk 13 52 (.pointer (some ⟨bf, j * 4, none⟩)) S0 ?_
   simp only [Act.put, Last2.s0, Last2.s1, Last2.s2]
   refine Last2.tk 14 53 (.pointer (some ⟨bf, j * 4, none⟩)) S0 ?_
   simp only [Act.put, Last2.s0, Last2.s1, Last2.s2]
   refine Last2.tk 15 54 (.int .i64 x.fate) S0 ?_
   simp only [Act.put, Last2.s0, Last2.s1, Last2.s2]
   refine Last2.tk 16 55 (.agg #[.int .i64 zf, .int .i64 zv, .int .i64 x.fate]) S0 ?_
   simp only [Act.put, Last2.s0, Last2.s1, Last2.s2]
   refine Last2.tk 17 56 (.pointer (some ⟨w2.heap.size, j * 3, none⟩)) S0 ?_
   simp only [Act.put, Last2.s0, Last2.s1, Last2.s2]
   refine Last2.last_one (i := 18) (o := { dst := none, op := .store 79 (.tmp 56) (.tmp 55), type := _, pos := _, after := _, guard := none }) (by kernel_rfl) rfl rfl (fun K hK => ?_)
   go_simp
   refine hK.out _ _ (fun h => (h (by decide)).elim) ?_
   clear hK K
   refine Last2.last_done (by kernel_rfl) ?_ _
   clear S0 u0 u1 u2 fz
   have OY := Lib.hid (show (((V.setCell ⟨w2.heap.size, j * 3, none⟩ (.int .i64 zf)).setCell ⟨w2.heap.size, j * 3 + 1, none⟩ (.int .i64 zv)).setCell ⟨w2.heap.size, j * 3 + 2, none⟩ (.int .i64 x.fate)).ownsRow w2.heap.size 79 3 (.slice (some ⟨w2.heap.size, 0, none⟩) N N) N ((L.set j (zf, zv, x.fate)).flatMap c3) from (by
    have hjl : j < L.length := (List.getElem?_eq_some_iff.1 HAT.out).1
    have e1 := row_put c3_len OX.out HAT.out 0 (.int .i64 zf) ((zf, 0, 0) : Tr) (by decide) rfl
    have e2 := row_put c3_len e1 (List.getElem?_set_self hjl) 1 (.int .i64 zv) ((zf, zv, 0) : Tr) (by decide) rfl
    rw [List.set_set] at e2
    have e3 := row_put c3_len e2 (List.getElem?_set_self hjl) 2 (.int .i64 x.fate) ((zf, zv, x.fate) : Tr) (by decide) rfl
    rwa [List.set_set] at e3))
   have BY := Lib.hid (((BX.out.setCell (p := ⟨w2.heap.size, j * 3, none⟩) (Nat.le_refl _) (.int .i64 zf)).setCell (p := ⟨w2.heap.size, j * 3 + 1, none⟩) (Nat.le_refl _) (.int .i64 zv)).setCell (p := ⟨w2.heap.size, j * 3 + 2, none⟩) (Nat.le_refl _) (.int .i64 x.fate))
   have OD := Lib.hid (own_below (B' := (((V.setCell ⟨w2.heap.size, j * 3, none⟩ (.int .i64 zf)).setCell ⟨w2.heap.size, j * 3 + 1, none⟩ (.int .i64 zv)).setCell ⟨w2.heap.size, j * 3 + 2, none⟩ (.int .i64 x.fate)).heap.size) OY.out (Below.drew (Below.refl _ _)) (Nat.le_refl _))
   have BD := Lib.hid (Below.drew BY.out)
   clear OX BX OY BY
   go_wp2_with fail
   go_roundw
   case rel => exact ⟨j + 1, by omega, by go_num, by rw [← HNX.out, HP3.out]; exact OD.out, BD.out⟩
   case measure => simp [intOf]; omega
  ·obtain rfl : j = N := by omega
   have O := Lib.hid hown
   have HB := Lib.hid hb
   clear hown hb
   go_wp2_with fail
   go_ret2
   have e1 : (sm.pan.take j).map p3 = sm.pan.map p3 := by rw [← HPN.out, List.take_length]
   have e2 : (sm.pan.map p3).length = j := by rw [List.length_map]; exact HPN.out
   have hO := O.out
   rw [Nat.sub_self, List.replicate_zero, List.append_nil, e1] at hO
   exact ⟨_, _, by rw [HR.out]; dsimp only; rw [e2] <;> rfl, by rw [HR.out]; dsimp only; rw [e2]; unfold Own3; rw [e2]; exact own_mono hO hsw, BB.out.trans (HB.out.mono hsw)⟩
end Go.Proofs.Ytgcjlkdahlfjlaa.Irk
-- squeezed
