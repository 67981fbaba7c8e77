import Derived.Test.YtgcjlkdahlfjlaaM30
import Derived.Test.YtgcjlkdahlfjlaaTree
import Derived.Test.YtgcjlkdahlfjlaaM21
import Derived.Test.YtgcjlkdahlfjlaaPo
import Derived.Test.YtgcjlkdahlfjlaaIrf
set_option linter.all false
namespace Go.Proofs.Ytgcjlkdahlfjlaa.Sv
open Go.ChangeShapes Go.WideShapes Go.ChangeAt Go.RowKit
open PL Mem Srun Sst Ssim Smk To OwnS AskP RunF Res Swhole Sout IntsP RowC RowA AccP AcctP Read3 TreeP LawI Pw
set_option maxRecDepth 100000 in
set_option maxHeartbeats 4000000 in
theorem l5Saved_any (B N c2 : Nat) (A2 : Option Addr) (t : List Tr) (hw : Whole t) (hp : (pds t).2 = true) (hN : t.length = N) (hlen : N ≤ 100000) (w : World) (hr : Rd3 w B A2 t) (hB : B ≤ w.heap.size) :
  Calls Try.prog 67 #[.slice A2 N c2] w fun e w' => ∃ A' c', e = .returned (.slice A' (savL t N).length c') ∧ OwnI w' w.heap.size (.slice A' (savL t N).length c') (savL t N) ∧ Below w.heap.size w w' := by
 obtain ⟨i0, hi, hz0, hz1, hz2⟩ := info_parts info3
 have HT := Lib.hid (fun W (b : Below w.heap.size w W) => l3Read_any B N c2 A2 t hw hN hlen W (hr.below (b.mono hB)) (Nat.le_trans hB b.size))
 have HR := Lib.hid (fun V (b : Below w.heap.size w V) => hr.below (b.mono hB))
 have HN := Lib.hid hN
 have HPD := Lib.hid hp
 have HLE := Lib.hid (fun j => savL_len t j)
 obtain ⟨M, hM⟩ : ∃ M, (tds t).calls.length = M := ⟨_, rfl⟩
 have HM := Lib.hid hM
 have HOL := Lib.hid (show (tds t).owners.length = N from (tds_len t).1.trans hN)
 clear hw hp hr hN hM
 go_enter Try.func67, Try.ntmps67
 go_wp2_with fail
 refine (HT.out _ ((Below.refl _ _).alloc (Nat.le_refl _) _)).mono ?_
 rintro e w3 ⟨Ac, cc, Ao, co, rfl, oc, oo, b3⟩
 rw [HM.out] at oc
 rw [HOL.out] at oo
 rw [HM.out, HOL.out]
 have hs1 : (w.alloc (.cells #[] 3)).heap.size = w.heap.size + 1 := by simp
 have B3 := Lib.hid (((Below.refl w.heap.size w).alloc (Nat.le_refl _) (.cells #[] 3)).trans (b3.mono (by rw [hs1]; omega)))
 have O3 := Lib.hid (own_below (B' := (w.alloc (.cells #[] 3)).heap.size) (show OwnI (w.alloc (.cells #[] 3)) w.heap.size (.slice (some ⟨w.heap.size, 0, none⟩) 0 0) [] from App.empty_own (heap1_0 w _) (Nat.le_refl _)) b3 (Nat.le_refl _))
 have A3 := Lib.hid (show Apt (.slice (some ⟨w.heap.size, 0, none⟩) 0 0) (.slice Ao N co) from fun y hy hy' => by
  have h1 := (World.ownsRow.lt oo y hy').1
  simp only [Value.ownBlock, Option.some.injEq] at hy
  omega)
 have OC := Lib.hid (show w3.ownsRow w.heap.size 87 5 (.slice Ac M cc) M (cells5 (tds t).calls) from (by have := own_mono oc (B' := w.heap.size) (by rw [hs1]; omega); rwa [HM.out] at this))
 have OO := Lib.hid (show w3.ownsRow w.heap.size 3 1 (.slice Ao N co) N (cellsI (tds t).owners) from (by have := own_mono oo (B' := w.heap.size) (by rw [hs1]; omega); rwa [HOL.out] at this))
 clear b3 oc oo HT
 go_upto_region 2 with fail
 change (fun V => Code.wp _ _ _ _ V) _
 refine gen_world (X := fun V => Blk V w3.heap.size 106 #[.slice Ac M cc, .slice Ao N co] ∧ V.ownsRow w.heap.size 87 5 (.slice Ac M cc) M (cells5 (tds t).calls) ∧ V.ownsRow w.heap.size 3 1 (.slice Ao N co) N (cellsI (tds t).owners) ∧ OwnI V w.heap.size (.slice (some ⟨w.heap.size, 0, none⟩) 0 0) [] ∧ Below w.heap.size w V) ⟨heap1_0 w3 _, World.ownsRow.alloc OC.out _, World.ownsRow.alloc OO.out _, World.ownsRow.alloc O3.out _, B3.out.alloc B3.out.size _⟩ ?_
 clear OC OO O3 B3
 generalize w3.heap.size = b
 rintro V ⟨tV, cV, oV, uV, bV⟩
 have TV := Lib.hid tV
 have CV := Lib.hid cV
 have OV := Lib.hid oV
 have UV := Lib.hid uV
 have BV := Lib.hid bV
 clear tV cV oV uV bV
 go_wp2_with fail
 go_loopw [3, 5] (fun v i wr => ∃ (j : Nat) (A' : Option Addr) (c' : Nat), j ≤ N ∧ i = .int .i64 j ∧ v = .slice A' (savL t j).length c' ∧ OwnI wr w.heap.size (.slice A' (savL t j).length c') (savL t j) ∧ Apt (.slice A' (savL t j).length c') (.slice Ao N co) ∧ Blk wr b 106 #[.slice Ac M cc, .slice Ao N co] ∧ wr.ownsRow w.heap.size 87 5 (.slice Ac M cc) M (cells5 (tds t).calls) ∧ wr.ownsRow w.heap.size 3 1 (.slice Ao N co) N (cellsI (tds t).owners) ∧ Below w.heap.size w wr) (fun _ i _ => N - (intOf i).toNat)
 case atStart => exact ⟨0, _, _, Nat.zero_le _, rfl, rfl, UV.out, A3.out, TV.out, CV.out, OV.out, BV.out⟩
 case round =>
  obtain ⟨j, A', c', hj, rfl, rfl, hown, hap, hT, hC, hO, hb⟩ := hrel
  clear UV A3 TV CV OV BV
  have hlo : w.heap.size ≤ wr.heap.size := hb.size
  by_cases hlt : j < N
  ·obtain ⟨⟨e0, e1, e2⟩, hs⟩ : ∃ s, t[j]? = some s := ⟨_, List.getElem?_eq_getElem (by rw [HN.out]; exact hlt)⟩
   obtain ⟨ad, rfl, hab, h0', h1', h2'⟩ := (HR.out wr hb) j _ hs
   have hl := HLE.out j
   have HB := Lib.hid hb
   have TV := Lib.hid hT
   have CV := Lib.hid hC
   have OV := Lib.hid hO
   have AP := Lib.hid hap
   have O := Lib.hid hown
   have HS := Lib.hid hs
   dsimp only at h0' h1' h2'
   clear hs hb hown hap hT hC hO
   by_cases k6 : e0 = 6
   ·subst k6
    obtain ⟨a, x, hoa, hx⟩ := rec_own HPD.out HS.out rfl
    have hal : a < M := by rw [← HM.out]; exact (List.getElem?_eq_some_iff.1 hx).1
    have HX := Lib.hid hx
    have HXX := Lib.hid (savL_yes HS.out rfl hoa hx)
    obtain ⟨bc, hbc⟩ : ∃ bc, Ac = some ⟨bc, 0, none⟩ := by
     rcases own_form CV.out with ⟨h0, _⟩ | ⟨_, bc, cap, hv, _⟩
     ·omega
     ·simp only [Value.slice.injEq] at hv
      exact ⟨bc, hv.1⟩
    subst hbc
    obtain ⟨bo, hbo⟩ : ∃ bo, Ao = some ⟨bo, 0, none⟩ := by
     rcases own_form OV.out with ⟨h0, _⟩ | ⟨_, bo, cap, hv, _⟩
     ·omega
     ·simp only [Value.slice.injEq] at hv
      exact ⟨bo, hv.1⟩
    subst hbo
    have HOA := Lib.hid (fun (V : World) (h : V.ownsRow w.heap.size 3 1 (.slice (some ⟨bo, 0, none⟩) N co) N (cellsI (tds t).owners)) => (show V.cell? ⟨bo, j, none⟩ = some (.int .i64 a) from (h.cellAt j (by omega)).trans (cellsI_at _ _ _ hoa)))
    clear hoa hx
    generalize savL t j = q at *
    go_wp2_with fail
    have S0 : (fun V : World => V.cell? ⟨b, 0, none⟩ = some (.slice (some ⟨bc, 0, none⟩) M cc) ∧ V.cell? ⟨b, 1, none⟩ = some (.slice (some ⟨bo, 0, none⟩) N co) ∧ V.cell? ⟨bo, j, none⟩ = some (.int .i64 a) ∧ V.cell? ⟨bc, a * 5 + 1, none⟩ = some (.int .i64 x.par)) wr.drew := ⟨TV.out.cells 0, TV.out.cells 1, HOA.out _ OV.out, (own_cell5 CV.out HX.out).2.1⟩
    refine Last2.region_last [13] (fun V : World => V.cell? ⟨b, 0, none⟩ = some (.slice (some ⟨bc, 0, none⟩) M cc) ∧ V.cell? ⟨b, 1, none⟩ = some (.slice (some ⟨bo, 0, none⟩) N co) ∧ V.cell? ⟨bo, j, none⟩ = some (.int .i64 a) ∧ V.cell? ⟨bc, a * 5 + 1, none⟩ = some (.int .i64 x.par)) (by kernel_rfl) ?_
    refine Last2.tk 0 21 (.slice A' q.length c') S0 ?_
    simp only [Act.put, Last2.s]
    refine Last2.tk 1 22 (.pointer (some ⟨b, 0, none⟩)) S0 ?_
    simp only [Act.put, Last2.s]
    refine Last2.tk 2 23 (.slice (some ⟨bc, 0, none⟩) M cc) S0 ?_
    simp only [Act.put, Last2.s]
    refine Last2.tk 3 24 (.pointer (some ⟨b, 1, none⟩)) S0 ?_
    simp only [Act.put, Last2.s]
    refine Last2.tk 4 25 (.slice (some ⟨bo, 0, none⟩) N co) S0 ?_
    simp only [Act.put, Last2.s]
    refine Last2.tk 5 26 (.int .i64 j) S0 ?_
    simp only [Act.put, Last2.s]
    refine Last2.tk 6 27 (.pointer (some ⟨bo, j, none⟩)) S0 ?_
    simp only [Act.put, Last2.s]
    refine Last2.tk 7 28 (.int .i64 a) S0 ?_
    simp only [Act.put, Last2.s]
    refine Last2.tk 8 29 (.pointer (some ⟨bc, a * 5, none⟩)) S0 ?_
    simp only [Act.put, Last2.s]
    refine Last2.tk 9 30 (.pointer (some ⟨bc, a * 5 + 1, none⟩)) S0 ?_
    simp only [Act.put, Last2.s]
    refine Last2.tk 10 31 (.int .i64 x.par) S0 ?_
    simp only [Act.put, Last2.s]
    refine Last2.last_one (i := 11) (o := { dst := some 32, op := .buildSlice 38 1 #[(0, .tmp 31)], type := _, pos := _, after := _, guard := none }) (by kernel_rfl) rfl rfl (fun K hK => ?_)
    go_simp
    have TA := Lib.hid (TV.out.alloc (.cells #[.int .i64 x.par] 3))
    have CA := Lib.hid (World.ownsRow.alloc CV.out (.cells #[.int .i64 x.par] 3))
    have OA := Lib.hid (World.ownsRow.alloc OV.out (.cells #[.int .i64 x.par] 3))
    have S1 : (fun V : World => V.cell? ⟨b, 0, none⟩ = some (.slice (some ⟨bc, 0, none⟩) M cc) ∧ V.cell? ⟨b, 1, none⟩ = some (.slice (some ⟨bo, 0, none⟩) N co) ∧ V.cell? ⟨bo, j, none⟩ = some (.int .i64 a) ∧ V.cell? ⟨bc, a * 5 + 1, none⟩ = some (.int .i64 x.par)) (wr.alloc (.cells #[.int .i64 x.par] 3)).drew := ⟨TA.out.cells 0, TA.out.cells 1, HOA.out _ OA.out, (own_cell5 CA.out HX.out).2.1⟩
    refine hK.out _ _ (fun _ => S1) ?_
    clear hK K S0 TA CA OA
    try simp only [Act.put, Last2.s]
    have o0 := World.ownsRow.alloc O.out (.cells #[.int .i64 x.par] 3)
    have p0 := App.one_own (heap1_0 wr (.cells #[.int .i64 x.par] 3))
    refine Last2.last_one (i := 12) (o := { dst := some 33, op := .call { callee := .builtin .append, args := #[.tmp 21, .tmp 32], argTypes := #[38, 38] }, type := _, pos := _, after := _, guard := none }) (by kernel_rfl) rfl rfl (fun K hK => ?_)
    refine App.row_wp _ (.tmp 21) (.tmp 32) 38 rfl w.heap.size 0 3 i0 _ 1 8 Try.underlying38 hi hz0 hz1 hz2 rfl (by decide) _ _ _ rfl o0 _ 1 [.int .i64 x.par] rfl p0 (by intro u hu; simp at hu; rcases hu with rfl; rfl) (by unfold maxLen; omega) (by omega) (by show w.heap.size ≤ (wr.alloc _).heap.size; rw [World.size_alloc]; omega) ?_
    intro v1 w1 o1 g1 t1
    have ch : Chg (fun x => (Value.slice A' q.length c').ownBlock = some x) wr w1 := Chg.trans (b := (wr.alloc (.cells #[.int .i64 x.par] 3)).drew) (Chg.trans (Chg.alloc _ wr _) (Chg.drew (fun _ => False) _) (fun _ _ h => h.elim)) (Chg.of_grown g1) (fun x _ hx => hx.symm)
    have T1 := Lib.hid (TV.out.chg ch (fun e => blk_apart O.out TV.out (by decide) e))
    have C1 := Lib.hid (own_chg CV.out ch (fun x hx e => apart CV.out O.out (by decide) x hx e))
    have W1 := Lib.hid (own_chg OV.out ch (fun x hx e => AP.out x e hx))
    have S2 : (fun V : World => V.cell? ⟨b, 0, none⟩ = some (.slice (some ⟨bc, 0, none⟩) M cc) ∧ V.cell? ⟨b, 1, none⟩ = some (.slice (some ⟨bo, 0, none⟩) N co) ∧ V.cell? ⟨bo, j, none⟩ = some (.int .i64 a) ∧ V.cell? ⟨bc, a * 5 + 1, none⟩ = some (.int .i64 x.par)) w1 := ⟨T1.out.cells 0, T1.out.cells 1, HOA.out _ W1.out, (own_cell5 C1.out HX.out).2.1⟩
    refine hK.out _ _ (fun _ => S2) ?_
    clear hK K o0 p0 S1
    obtain ⟨A1, c1, rfl⟩ := own_slice o1
    have O1 := Lib.hid o1
    have B1 := Lib.hid (HB.out.trans (ch.below hlo (fun x hx e => by have := (World.ownsRow.lt O.out x e).1; omega)))
    have AP1 := Lib.hid (show Apt (.slice A1 (q.length + 1) c1) (.slice (some ⟨bo, 0, none⟩) N co) from (by
     intro y hy hy'
     rcases t1 with e | e
     ·exact AP.out y (e.symm.trans hy) hy'
     ·have e2 := hy.symm.trans e
      simp only [Option.some.injEq] at e2
      have h2 := (World.ownsRow.lt OV.out y hy').2
      have h3 : (wr.alloc (.cells #[.int .i64 x.par] 3)).drew.heap.size = wr.heap.size + 1 := by show (wr.alloc (.cells #[.int .i64 x.par] 3)).heap.size = _; rw [World.size_alloc]
      omega))
    clear o1 g1 t1 ch S2 HB O TV CV OV AP
    try simp only [Act.put, Last2.s]
    refine Last2.last_one (i := 13) (o := { dst := some 3, op := .assign (.tmp 33), type := _, pos := _, after := _, guard := none }) (by kernel_rfl) rfl rfl (fun K hK => ?_)
    go_simp
    refine hK.out _ _ (fun h => (h (by decide)).elim) ?_
    clear hK K
    try simp only [Act.put, Last2.s]
    refine Last2.last_done (by kernel_rfl) ?_ _
    go_wp2_with fail
    go_roundw
    case rel =>
     have he : (q ++ [x.par]).length = q.length + 1 := by rw [List.length_append, List.length_singleton]
     refine ⟨j + 1, A1, c1, by omega, by go_num, by rw [HXX.out, he], ?_, ?_, T1.out, C1.out, W1.out, B1.out⟩
     ·rw [HXX.out]
      unfold OwnI
      rw [he, cellsI_append]
      exact O1.out
     ·rw [HXX.out, he]
      exact AP1.out
    case measure => simp [intOf]; omega
   ·have hcb : (e0 == 6) = false := by simpa using k6
    have HXX := Lib.hid (savL_no HS.out k6)
    clear k6
    go_wp2_with fail
    go_roundw
    case rel => exact ⟨j + 1, A', c', by omega, by go_num, by rw [HXX.out], by rw [HXX.out]; exact O.out, by rw [HXX.out]; exact AP.out, TV.out, CV.out, OV.out, HB.out⟩
    case measure => simp [intOf]; omega
  ·obtain rfl : j = N := by omega
   have HB := Lib.hid hb
   have O := Lib.hid hown
   clear hb hown hap hT hC hO
   go_wp2_with fail
   go_ret
   exact ⟨A', c', rfl, O.out, HB.out⟩
end Go.Proofs.Ytgcjlkdahlfjlaa.Sv
namespace Go.Proofs.Ytgcjlkdahlfjlaa.Svi
open Go.ChangeShapes Go.WideShapes Go.ChangeAt Go.RowKit
open PL Mem Srun Sst IntsP RowA RowC AccP Swhole Pw Px Ipm Ise Iex Irc Ipa Iun Irs To OwnS AskP Res Sout Irp RunF AcctP TreeP LawI LawA LawN Po Irf Sv
theorem rc_form {V : World} {lo g ga : Nat} {hp hf ho hr : Hd} {i : IS} (h : IW V lo g ga hp hf ho hr i) (hl : 0 < i.rec_.length) : ∃ b, b < V.heap.size ∧ hr.A = some ⟨b, 0, none⟩ := by
 rcases own_form h.rec_ with ⟨h0, _⟩ | ⟨_, b, cap, hv, hb1, hb2⟩
 ·omega
 ·simp only [Value.slice.injEq, true_and] at hv
  exact ⟨b, hb2, hv.1⟩
set_option maxRecDepth 100000 in
set_option maxHeartbeats 4000000 in
theorem savedCalls_any {w : World} {lo g ga N : Nat} {hp hf ho hr : Hd} {i : IS} {k v s cur : Int} {tv cv ov : Value} {cs : List CI} {os : List Int} (h : IW w lo g ga hp hf ho hr i) (ha : Acc ga k v s tv cv ov cs os cur w) (hN : i.rec_.length = N) (hNl : N ≤ 100000) (hA : ∀ q ∈ i.rec_, ∃ a : Nat, q.2 = a ∧ a < cs.length) :
  Calls Try.prog 68 #[.pointer (some ⟨g, 0, none⟩)] w fun e w' => ∃ A c, e = .returned (.slice A N c) ∧ OwnI w' w.heap.size (.slice A N c) (i.rec_.map (fun q : Int × Int => parOf cs q.2)) ∧ Below w.heap.size w w' := by
 obtain ⟨i0, hi, hz0, hz1, hz2⟩ := info_parts info3
 have HW := Lib.hid (fun V (b : Below w.heap.size w V) => h.below b)
 have HACC := Lib.hid (fun V (b : Below w.heap.size w V) => ha.below b)
 have q4 : w.cell? ⟨g, 4, none⟩ = some (.slice hr.A N hr.c) := hN ▸ h.blk.cells 4
 have hmk := fun W => run_make_rowN (P := Try.prog) 38 3 i0 _ Try.underlying38 hi hz0 .i64 .i64 N N (Nat.le_refl _) (by rw [hz2]; omega) (by omega) W
 rw [hz1] at hmk
 have HN := Lib.hid hN
 have HAA := Lib.hid hA
 have hgl := h.lt
 have hgal := ha.lt
 have q4' : ∀ o, (w.alloc o).cell? ⟨g, 4, none⟩ = some (.slice hr.A N hr.c) := fun o => hN ▸ (h.below ((Below.refl _ _).alloc (Nat.le_refl _) _)).blk.cells 4
 clear h ha hN hA
 go_enter Try.func68, Try.ntmps68
 go_wp2_with fail
 go_loopw [17] (fun v wr => ∃ j : Nat, j ≤ N ∧ v = .int .i64 j ∧ wr.ownsRow w.heap.size 3 1 (.slice (some ⟨w.heap.size, 0, none⟩) N N) N (cellsI ((i.rec_.take j).map (fun q : Int × Int => parOf cs q.2) ++ List.replicate (N - j) 0)) ∧ Below w.heap.size w wr) (fun v _ => N - (intOf v).toNat)
 case atStart =>
  refine ⟨0, Nat.zero_le _, rfl, ?_, (Below.refl _ _).alloc (Nat.le_refl _) _⟩
  have := World.ownsRow_lit (base := w.heap.size) (e := 3) (size := 1) w (madeCells #[Value.int .i64 0] (N * 1)) N (Nat.le_refl _) (by unfold maxLen; omega) (size_madeCells _ _)
  rw [Nat.mul_one, toList_madeCells_one] at this
  simpa [cellsI, List.map_replicate] using this
 case round =>
  obtain ⟨j, hj, rfl, hown, hb⟩ := hrel
  clear q4 q4' hmk
  have hsz := hb.size
  by_cases hlt : j < N
  ·obtain ⟨⟨qn, qc⟩, hq⟩ : ∃ q, i.rec_[j]? = some q := ⟨_, List.getElem?_eq_getElem (by rw [HN.out]; exact hlt)⟩
   obtain ⟨a, ha, hal⟩ := HAA.out _ (List.mem_of_getElem? hq)
   dsimp only at ha
   subst ha
   obtain ⟨x, hx⟩ : ∃ x, cs[a]? = some x := ⟨_, List.getElem?_eq_getElem hal⟩
   have hWr := HW.out wr hb
   obtain ⟨br, hbr, hA⟩ := rc_form hWr (by rw [HN.out]; omega)
   obtain ⟨Ar, cr⟩ := hr
   dsimp only at hA
   subst hA
   have k0 := row_at q2_len hWr.rec_ hq (o := 0) (by decide) rfl
   have k1 := row_at q2_len hWr.rec_ hq (o := 1) (by decide) rfl
   have HNX := Lib.hid (show ((i.rec_.take j).map (fun q : Int × Int => parOf cs q.2) ++ List.replicate (N - j) 0).set j x.par = (i.rec_.take (j + 1)).map (fun q : Int × Int => parOf cs q.2) ++ List.replicate (N - (j + 1)) 0 from (by
    have := map_set_next (φ := fun q : Int × Int => parOf cs q.2) hq HN.out
    dsimp only at this
    rw [parOf_at hx] at this
    exact this))
   generalize (i.rec_.take j).map (fun q : Int × Int => parOf cs q.2) ++ List.replicate (N - j) 0 = L at *
   have O := Lib.hid hown
   have HB := Lib.hid hb
   have HX := Lib.hid hx
   replace k0 : wr.cell? ⟨br, j * 2, none⟩ = some (.int .i64 qn) := k0
   replace k1 : wr.cell? ⟨br, j * 2 + 1, none⟩ = some (.int .i64 (a : Int)) := k1
   clear hWr hown hb hq hx
   go_upto_region 5 with fail
   change (fun V => Code.wp _ _ _ _ V) _
   refine gen_world (X := fun V => Blk V wr.heap.size 85 #[.int .i64 qn, .int .i64 a] ∧ V.ownsRow w.heap.size 3 1 (.slice (some ⟨w.heap.size, 0, none⟩) N N) N (cellsI L) ∧ Below w.heap.size w V) ⟨heap1_0 wr _, own_below (B' := wr.heap.size) O.out ((Below.refl _ _).alloc (Nat.le_refl _) _) (Nat.le_refl _), HB.out.alloc hsz _⟩ ?_
   clear HB O k0 k1
   generalize wr.heap.size = bx at *
   rintro V ⟨eX, oX, bX⟩
   have aV := HACC.out V bX
   obtain ⟨bc, cc, hbc1, hbc2, hcv⟩ := call_form aV (by omega)
   subst hcv
   have wV := HW.out V bX
   obtain ⟨-, xp, -, -, -⟩ := own_cell5 aV.calls HX.out
   obtain ⟨u0, hu0⟩ := own_cellI oX hlt
   have fz := oX.frozenAt
   have S0 : (fun V : World => V.cell? ⟨bx, 1, none⟩ = some (.int .i64 a) ∧ V.cell? ⟨g, 0, none⟩ = some (.pointer (some ⟨ga, 0, none⟩)) ∧ V.cell? ⟨ga, 4, none⟩ = some (.slice (some ⟨bc, 0, none⟩) cs.length cc) ∧ V.cell? ⟨bc, a * 5 + 1, none⟩ = some (.int .i64 x.par)) V.drew := ⟨eX.cells 1, wV.blk.cells 0, aV.blk.cells 4, xp⟩
   have OX := Lib.hid oX
   have BX := Lib.hid bX
   clear eX oX bX aV wV xp
   refine Last2.region_last [15] (fun V : World => V.cell? ⟨bx, 1, none⟩ = some (.int .i64 a) ∧ V.cell? ⟨g, 0, none⟩ = some (.pointer (some ⟨ga, 0, none⟩)) ∧ V.cell? ⟨ga, 4, none⟩ = some (.slice (some ⟨bc, 0, none⟩) cs.length cc) ∧ V.cell? ⟨bc, a * 5 + 1, none⟩ = some (.int .i64 x.par)) (by kernel_rfl) ?_
   refine Last2.tk 0 22 (.slice (some ⟨w.heap.size, 0, none⟩) N N) S0 ?_
   simp only [Act.put, Last2.s]
   refine Last2.tk 1 23 (.int .i64 j) S0 ?_
   simp only [Act.put, Last2.s]
   refine Last2.tk 2 24 (.pointer (some ⟨g, 0, none⟩)) S0 ?_
   simp only [Act.put, Last2.s]
   refine Last2.tk 3 25 (.pointer (some ⟨g, 0, none⟩)) S0 ?_
   simp only [Act.put, Last2.s]
   refine Last2.tk 4 26 (.pointer (some ⟨g, 0, none⟩)) S0 ?_
   simp only [Act.put, Last2.s]
   refine Last2.tk 5 27 (.pointer (some ⟨ga, 0, none⟩)) S0 ?_
   simp only [Act.put, Last2.s]
   refine Last2.tk 6 28 (.pointer (some ⟨ga, 0, none⟩)) S0 ?_
   simp only [Act.put, Last2.s]
   refine Last2.tk 7 29 (.pointer (some ⟨ga, 4, none⟩)) S0 ?_
   simp only [Act.put, Last2.s]
   refine Last2.tk 8 30 (.slice (some ⟨bc, 0, none⟩) cs.length cc) S0 ?_
   simp only [Act.put, Last2.s]
   refine Last2.tk 9 31 (.pointer (some ⟨bx, 1, none⟩)) S0 ?_
   simp only [Act.put, Last2.s]
   refine Last2.tk 10 32 (.int .i64 a) S0 ?_
   simp only [Act.put, Last2.s]
   refine Last2.tk 11 33 (.pointer (some ⟨bc, a * 5, none⟩)) S0 ?_
   simp only [Act.put, Last2.s]
   refine Last2.tk 12 34 (.pointer (some ⟨bc, a * 5 + 1, none⟩)) S0 ?_
   simp only [Act.put, Last2.s]
   refine Last2.tk 13 35 (.int .i64 x.par) S0 ?_
   simp only [Act.put, Last2.s]
   refine Last2.tk 14 36 (.pointer (some ⟨w.heap.size, j, none⟩)) S0 ?_
   simp only [Act.put, Last2.s]
   refine Last2.last_one (i := 15) (o := { dst := none, op := .store 3 (.tmp 36) (.tmp 35), type := _, pos := _, after := _, guard := none }) (by kernel_rfl) rfl rfl (fun K hK => ?_)
   go_simp
   refine hK.out _ _ (fun h => (h (by decide)).elim) ?_
   clear hK K
   refine Last2.last_done (by kernel_rfl) ?_ _
   clear S0 hu0 fz
   have OY := Lib.hid (own_setI OX.out j x.par)
   have OD := Lib.hid (own_below (B' := (V.setCell ⟨w.heap.size, j, none⟩ (.int .i64 x.par)).heap.size) OY.out (Below.drew (Below.refl _ _)) (Nat.le_refl _))
   have BD := Lib.hid (Below.drew (BX.out.setCell (p := ⟨w.heap.size, j, none⟩) (Nat.le_refl _) (.int .i64 x.par)))
   clear OX BX OY
   go_wp2_with fail
   go_roundw
   case rel => exact ⟨j + 1, by omega, by go_num, by rw [← HNX.out]; exact OD.out, BD.out⟩
   case measure => simp [intOf]; omega
  ·obtain rfl : j = N := by omega
   have O := Lib.hid hown
   have HB := Lib.hid hb
   clear hown hb
   go_wp2_with fail
   go_ret
   have hO := O.out
   rw [Nat.sub_self, List.replicate_zero, List.append_nil, ← HN.out, List.take_length] at hO
   exact ⟨_, _, rfl, by unfold OwnI; rw [List.length_map]; rw [HN.out] at hO ⊢; exact hO, HB.out⟩
