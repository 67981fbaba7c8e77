import Derived.Test.YtdmcgkcpclepfaaKrp
import Derived.Test.YtdmcgkcpclepfaaNus
import Derived.Test.YtdmcgkcpclepfaaDropI
import Derived.Test.YtdmcgkcpclepfaaIdp
set_option linter.all false
namespace Go.Proofs.Ytdmcgkcpclepfaa.Krs
open Lib (hid)
open Go.ChangeShapes Go.WideShapes Go.ChangeAt Go.RowKit
open PL Mem Srun Sst To AskP StpS MarkP OwnS Res Prg PrgS IntsP SlotP DeferP DropI CalP ReaP Nup Nus Krp
def KeptR (r : Pg × Int × Bool) (w : World) (e : Ending) (w' : World) : Prop :=
 ∃ A c, e = .returned (.tuple #[.agg #[.slice A r.1.length c], .int .i64 r.2.1, .bool r.2.2]) ∧ OwnP w' w.heap.size (.slice A r.1.length c) r.1 ∧ Below w.heap.size w w'
theorem keptR_no {p : Pg} {f : Int} (h : isFn p f = false) : keptR p f = ([], 0, false) := by unfold keptR; rw [h]; rfl
theorem toK_next (R : List Int) (k : Nat) : toK R (k + 1) = toK R k ++ [tvK R k] := by rw [toK]
theorem tv_rng {R : List Int} {n m : Nat} (hm : (fkK R n).length ≤ m) {i : Nat} (hi : i < n) : -1 ≤ tvK R i ∧ tvK R i < m := by
 unfold tvK
 split
 ·rename_i hc
  have h1 := fkK_mono R (k := i + 1) (n - (i + 1))
  rw [show i + 1 + (n - (i + 1)) = n by omega, fkK, if_pos hc, List.length_append, List.length_singleton] at h1
  omega
 ·omega
set_option maxHeartbeats 8000000 in
set_option maxRecDepth 100000 in
theorem keepS_any (lo n c : Nat) (A : Option Addr) (p : Pg) (f : Int) (hn : n ≤ 2000000) (hl : p.length = n) (hsm : Small p 2000000) (w : World) (ho : OwnP w lo (.slice A n c) p) :
  Calls Try.prog 36 #[.agg #[.slice A n c], .int .i64 f] w (KeptR (keptR p f) w) := by
 have hF := hid (fun w hr hB => l2Program_any w.heap.size A n c p (by omega) hl (hsm.mono (by omega)) w hr hB)
 have hG := hid (fun w => l2Function_any A n c f (by omega) w)
 have hO := hid ho
 clear ho
 cases hok' : okProg p with
 | false =>
  have hs := hid (keptR_no (p := p) (f := f) (by rw [DeferP.isFn_eq, hok']; rfl))
  rw [hok'] at hF
  clear hok' hl hsm hG
  go_enter Try.func36, Try.ntmps36
  go_wp2_with fail
  refine (hF.out _ (hO.out.below (two_below n c A w)).rd (Nat.le_refl _)).mono ?_
  rintro e w1 ⟨rfl, b1⟩
  obtain ⟨d0, d1, bb1, s1⟩ := two_facts b1
  have z0 : w1.cell? ⟨w.heap.size, 0, none⟩ = some (.slice A n c) := d0.cells 0
  have z1 : w1.cell? ⟨w.heap.size + 1, 0, none⟩ = some (.slice none 0 0) := d1.cells 0
  have f1 := d1.frozen 0
  clear d0 d1 b1
  go_wp2_with fail
  refine bodyPost_ret (v := .tuple #[.agg #[.slice none 0 0], .int .i64 0, .bool false]) (by simp [results, Try.results36, go_sem, z1]) rfl (by rw [hs.out]; exact ⟨none, 0, rfl, own_nil _ _, bb1.setCell (by show w.heap.size ≤ w.heap.size + 1; omega) _⟩)
 | true =>
  rw [hok'] at hF
  cases hin : inP f n with
  | false =>
  have hs := hid (keptR_no (p := p) (f := f) (by rw [DeferP.isFn_eq, hok', hl, hin]; rfl))
  rw [hin] at hG
  clear hok' hl hsm hin
  go_enter Try.func36, Try.ntmps36
  go_wp2_with fail
  refine (hF.out _ (hO.out.below (two_below n c A w)).rd (Nat.le_refl _)).mono ?_
  rintro e w1 ⟨rfl, b1⟩
  obtain ⟨d0, d1, bb1, s1⟩ := two_facts b1
  have z0 : w1.cell? ⟨w.heap.size, 0, none⟩ = some (.slice A n c) := d0.cells 0
  clear b1 d0
  go_wp2_with fail
  refine (hG.out _).mono ?_
  rintro e w3 ⟨rfl, hw3⟩
  have z1 : w3.cell? ⟨w.heap.size + 1, 0, none⟩ = some (.slice none 0 0) := by rw [← hw3]; exact (d1.alloc _).cells 0
  have f1 : w3.frozen? ⟨w.heap.size + 1, 0, none⟩ = false := by rw [← hw3]; exact (d1.alloc _).frozen 0
  have bb3 : Below w.heap.size w w3 := by rw [← hw3]; exact bb1.alloc bb1.size _
  clear d1 hw3
  go_wp2_with fail
  refine bodyPost_ret (v := .tuple #[.agg #[.slice none 0 0], .int .i64 0, .bool false]) (by simp [results, Try.results36, go_sem, z1]) rfl (by rw [hs.out]; exact ⟨none, 0, rfl, own_nil _ _, bb3.setCell (by show w.heap.size ≤ w.heap.size + 1; omega) _⟩)
  | true =>
  have hfn : isFn p f = true := by rw [DeferP.isFn_eq, hok', hl, hin]; rfl
  rw [hin] at hG
  clear hin
  obtain ⟨nf, b, rfl, hb, h8, hlt, h6⟩ := isFn_row hfn
  have hrR : keptR p nf = (keepP p (reachL p nf) n, (toK (reachL p nf) n).getD nf 0, true) := by unfold keptR; rw [hfn, if_pos rfl, Int.toNat_natCast, hl]
  have hasc := reach_asc p nf
  have hrng := reach_rng hok' hlt
  have hm6 := Idp.reach_six hok' h6 hlt
  rw [hl] at hrng h6 hlt
  have HN := hid (num_keep (p := p) hasc hrng)
  have HMK := hid (many_keep hasc hrng)
  have HFL := fkK_full hasc hrng
  have HTV := hid (fun (i : Nat) (hi : i < n) => tv_rng (R := reachL p nf) (m := (reachL p nf).length) (by rw [HFL]; exact Nat.le_refl _) hi)
  have HRE := hid (fun (W : World) (b : Below w.heap.size w W) => l2Reach_any n c nf A p hok' hl h6 hlt W ((hO.out.below b).rd))
  have HNU := hid (fun (ct mn : Nat) (At : Option Addr) (tn : List Int) h1 h2 h3 h4 (W : World) (b : Below w.heap.size w W) (h5 : RdI W W.heap.size At tn) => l9Numbered_any n c ct mn A At p tn hok' hl h1 h2 h3 h4 W ((hO.out.below b).rd) h5)
  have HKL := hid (show (keepP p (reachL p nf) n).length = (reachL p nf).length from List.length_map ..)
  have hS := hid hrR
  clear hrR hl hsm hok' hfn hb h8 hasc hrng HFL
  generalize reachL p nf = R at *
  generalize hmn : R.length = m at *
  obtain ⟨i0, hi, hz0, hz1, hz2⟩ := info_parts infoInt
  go_enter Try.func36, Try.ntmps36
  go_wp2_with fail
  refine (hF.out _ (hO.out.below (two_below n c _ w)).rd (Nat.le_refl _)).mono ?_
  rintro e w0 ⟨rfl, b0⟩
  obtain ⟨d0', d1', bb0, s0'⟩ := two_facts b0
  have z0 : w0.cell? ⟨w.heap.size, 0, none⟩ = some (.slice A n c) := d0'.cells 0
  clear b0
  go_wp2_with fail
  refine (hG.out _).mono ?_
  rintro e w1 ⟨rfl, hw1⟩
  have d0 : Blk w1 w.heap.size 31 #[.slice A n c] := by rw [← hw1]; exact d0'.alloc _
  have d1 : Blk w1 (w.heap.size + 1) 31 #[.slice none 0 0] := by rw [← hw1]; exact d1'.alloc _
  have bb1 : Below w.heap.size w w1 := by rw [← hw1]; exact bb0.alloc bb0.size _
  have D0 := hid d0
  have D1 := hid d1
  have BB1 := hid bb1
  have z0 : w1.cell? ⟨w.heap.size, 0, none⟩ = some (.slice A n c) := d0.cells 0
  clear d0' d1' bb0 s0' hw1 hF hG d0 d1 bb1
  go_wp2_with fail
  refine (HRE.out _ BB1.out).mono ?_
  rintro e ws ⟨Al, cl, rfl, ol, bl⟩
  have E0 := hid (D0.out.below bl D0.out.lt)
  have E1 := hid (D1.out.below bl D1.out.lt)
  have BS := hid (BB1.out.trans (bl.mono BB1.out.size))
  have HHS := hid (fun (V : World) (b : Below ws.heap.size ws V) => (show RdI V ws.heap.size Al R from (ol.rd hmn).below b))
  clear bl ol z0
  go_upto_region 4 with fail
  change (fun V => Code.wp _ _ _ _ V) _
  refine gen_world (X := fun V => V.ownsRow ws.heap.size 3 1 (.slice (some ⟨ws.heap.size, 0, none⟩) 0 0) 0 (cellsI (toK R 0)) ∧ Below ws.heap.size ws V) ⟨App.empty_own (heap1_0 ws _) (Nat.le_refl _), (Below.refl _ _).alloc (Nat.le_refl _) _⟩ ?_
  rintro wx ⟨ox, bx⟩
  have OB0 := hid ox
  have BB0 := hid bx
  clear ox bx
  go_wp2_with fail
  go_loopw [8, 9, 10] (fun v v9 i wr => ∃ (k : Nat) (Ab : Option Addr) (cb : Nat), k ≤ n ∧ i = .int .i64 k ∧ v9 = .int .i64 ((fkK R k).length : Nat) ∧ v = .slice Ab k cb ∧ wr.ownsRow ws.heap.size 3 1 (.slice Ab k cb) k (cellsI (toK R k)) ∧ Below ws.heap.size ws wr) (fun _ _ i _ => n - (intOf i).toNat)
  case atStart => exact ⟨0, _, _, Nat.zero_le _, rfl, rfl, rfl, OB0.out, BB0.out⟩
  case round =>
   obtain ⟨k, Ab, cb, hk, rfl, rfl, rfl, hob, hbb⟩ := hrel
   clear OB0 BB0
   have OB := hid hob
   have BB := hid hbb
   have y1 : wr.cell? ⟨w.heap.size, 0, none⟩ = some (.slice A n c) := (E0.out.below hbb E0.out.lt).cells 0
   have hsb := hbb.size
   have hfk := fkK_le R k
   by_cases hkn : k < n
   ·have HH := hid (has_any ws.heap.size Al m cl R (k : Int) (by omega) hmn wr (HHS.out wr hbb))
    have HTX := hid (toK_next R k)
    cases hc : R.contains (k : Int) with
    | true =>
     have HTN := hid (show toK R (k + 1) = toK R k ++ [((fkK R k).length : Int)] by rw [HTX.out]; unfold tvK; rw [if_pos hc])
     have HFN := hid (show (fkK R (k + 1)).length = (fkK R k).length + 1 by rw [fkK, if_pos hc, List.length_append]; rfl)
     rw [hc] at HH
     clear hc HTX hob hbb
     generalize (fkK R k).length = q at *
     go_wp2_with fail
     refine HH.out.mono ?_
     rintro e w2 ⟨rfl, rfl⟩
     go_wp2_with (at_builtin; refine wpList_append_lies _ rfl _ _ 26 rfl ws.heap.size 3 i0 _ 1 8 Try.underlying26 hi hz0 hz1 hz2 rfl (by decide) _ _ _ rfl (World.ownsRow.alloc OB.out _) ⟨wr.heap.size, 0, none⟩ 1 1 [.int .i64 q] rfl rfl ?cn1 ?co1 (by decide) ?c631 ?cb1 ?cl1 (wr.heap.size + 1) ?cH1 ?next1)
     (try (case cn1 => exact World.news_of_block (cs := #[.int .i64 q]) (t := 3) (fr := (0, 0)) (heap_alloc_new _ _)))
     case co1 => first | (intro u hu; simp at hu; rcases hu with rfl; rfl) | simp [Value.oneCell']
     case c631 => first | (unfold maxLen; omega) | omega
     case cb1 => omega
     case cl1 => first | (simp; omega) | omega
     (try (case cH1 => simp))
     case next1 =>
      intro g2 cap2 w2' hown2 hgrow2 hat2 hlt2
      have c2' : Chg (fun y => (Value.slice Ab k cb).ownBlock = some y) wr w2' := (Chg.alloc _ wr _).trans (Chg.of_grown hgrow2) (fun x _ hx => hx.symm)
      have B2 := hid (BB.out.trans (c2'.below BB.out.size (fun x hx e => by have := (World.ownsRow.lt OB.out x e).1; omega)))
      have O2 := hid hown2
      clear hown2 hgrow2 hat2 c2'
      go_wp2_with fail
      go_roundw
      case rel => exact ⟨k + 1, some ⟨g2, 0, none⟩, cap2, by omega, by go_num, by rw [HFN.out]; go_num, rfl, by rw [HTN.out, cellsI_append]; exact O2.out, B2.out⟩
      case measure => simp [intOf]; omega
    | false =>
     have HTN := hid (show toK R (k + 1) = toK R k ++ [(-1 : Int)] by rw [HTX.out]; unfold tvK; rw [if_neg (by rw [hc]; decide)])
     have HFN := hid (show (fkK R (k + 1)).length = (fkK R k).length by rw [fkK, if_neg (by rw [hc]; decide)])
     rw [hc] at HH
     clear hc HTX hob hbb
     generalize (fkK R k).length = q at *
     go_wp2_with fail
     refine HH.out.mono ?_
     rintro e w2 ⟨rfl, rfl⟩
     go_wp2_with (at_builtin; refine wpList_append_lies _ rfl _ _ 26 rfl ws.heap.size 3 i0 _ 1 8 Try.underlying26 hi hz0 hz1 hz2 rfl (by decide) _ _ _ rfl (World.ownsRow.alloc OB.out _) ⟨wr.heap.size, 0, none⟩ 1 1 [.int .i64 (-1)] rfl rfl ?cn2 ?co2 (by decide) ?c632 ?cb2 ?cl2 (wr.heap.size + 1) ?cH2 ?next2)
     (try (case cn2 => exact World.news_of_block (cs := #[.int .i64 (-1)]) (t := 3) (fr := (0, 0)) (heap_alloc_new _ _)))
     case co2 => first | (intro u hu; simp at hu; rcases hu with rfl; rfl) | simp [Value.oneCell']
     case c632 => first | (unfold maxLen; omega) | omega
     case cb2 => omega
     case cl2 => first | (simp; omega) | omega
     (try (case cH2 => simp))
     case next2 =>
      intro g2 cap2 w2' hown2 hgrow2 hat2 hlt2
      have c2' : Chg (fun y => (Value.slice Ab k cb).ownBlock = some y) wr w2' := (Chg.alloc _ wr _).trans (Chg.of_grown hgrow2) (fun x _ hx => hx.symm)
      have B2 := hid (BB.out.trans (c2'.below BB.out.size (fun x hx e => by have := (World.ownsRow.lt OB.out x e).1; omega)))
      have O2 := hid hown2
      clear hown2 hgrow2 hat2 c2'
      go_wp2_with fail
      go_roundw
      case rel => exact ⟨k + 1, some ⟨g2, 0, none⟩, cap2, by omega, by go_num, by rw [HFN.out], rfl, by rw [HTN.out, cellsI_append]; exact O2.out, B2.out⟩
      case measure => simp [intOf]; omega
   ·obtain rfl : k = n := by omega
    have hrt : RdI wr wr.heap.size Ab (toK R k) := rdI_own hob
    obtain ⟨t, ht⟩ : ∃ t, (toK R k)[nf]? = some t := ⟨_, toK_get hlt⟩
    obtain ⟨at', rfl, hatb, hat⟩ := hrt nf t ht
    have HT := hid (show (toK R k).getD nf 0 = t by rw [List.getD_eq_getElem?_getD, ht]; rfl)
    have hbw : Below w.heap.size w wr := BS.out.trans (hbb.mono BS.out.size)
    have BW := hid hbw
    have HNN := hid (HNU.out cb m (some at') (toK R k) (toK_len R k) HMK.out (by omega) (fun i t h => by
     have hi := (List.getElem?_eq_some_iff.1 h).1
     rw [toK_len] at hi
     rw [toK_get hi] at h
     cases h
     have := HTV.out i hi
     exact ⟨this.1, by omega⟩) wr.drew hbw.drew (hrt.below (Below.refl _ _).drew))
    rw [HN.out] at HNN
    have F0 := E0.out.below hbb E0.out.lt
    have F1 := E1.out.below hbb E1.out.lt
    have hX := hid (fun (V : World) (b : Below wr.heap.size wr V) => (show V.cell? ⟨w.heap.size, 0, none⟩ = some (.slice A k c) ∧ V.cell? (at'.add nf) = some (.int .i64 t) from ⟨(F0.below b F0.lt).cells 0, (b.cell (by rw [block_of_add]; exact hatb)).trans hat⟩))
    have hX1 := hid (fun (V : World) (b : Below wr.heap.size wr V) => (show Blk V (w.heap.size + 1) 31 #[.slice none 0 0] from F1.below b F1.lt))
    have hatn : at'.block ≠ w.heap.size + 1 := by
     have h1 := (World.ownsRow.lt OB.out at'.block (by first | rfl | simp [Value.ownBlock])).1
     have h2 := E1.out.lt
     omega
    clear hob hbb hrt ht F0 F1 hbw hatb hat HN HMK HTV
    go_wp2_with fail
    have S0 : (fun V : World => V.cell? ⟨w.heap.size, 0, none⟩ = some (.slice A k c) ∧ V.cell? (at'.add nf) = some (.int .i64 t)) wr.drew := hX.out _ (Below.refl _ _).drew
    refine Last2.region_last [] (fun V : World => V.cell? ⟨w.heap.size, 0, none⟩ = some (.slice A k c) ∧ V.cell? (at'.add nf) = some (.int .i64 t)) (by kernel_rfl) ?_
    refine Last2.tk 0 44 (.agg #[.slice A k c]) S0 ?_
    simp only [Act.put, Last2.s]
    refine Last2.tk 1 45 ((.slice (some at') k cb)) S0 ?_
    simp only [Act.put, Last2.s]
    refine Last2.tk 3 47 ((.slice (some at') k cb)) S0 ?_
    simp only [Act.put, Last2.s]
    refine Last2.tk 4 48 (.int .i64 nf) S0 ?_
    simp only [Act.put, Last2.s]
    refine Last2.tk 5 49 (.pointer (some (at'.add nf))) S0 ?_
    simp only [Act.put, Last2.s]
    refine Last2.tk 6 50 (.int .i64 t) S0 ?_
    simp only [Act.put, Last2.s]
    refine Last2.last_one (i := 2) (o := { dst := some 46, op := .call { callee := .value (.func 77), args := #[.tmp 44, .tmp 45], argTypes := #[31, 26] }, type := _, pos := _, after := _, guard := _ }) (by kernel_rfl) rfl rfl (fun K hK => ?_)
    go_simp
    refine HNN.out.mono ?_
    rintro e wa ⟨A9, c9, rfl, o9, b9⟩
    have ta : Below wr.heap.size wr wa := (Below.refl _ _).drew.trans b9
    refine hK.out _ _ (fun _ => hX.out wa ta) ?_
    clear hK K
    try simp only [Act.put, Last2.s]
    have zb := hX1.out wa ta
    have z4 : wa.cell? ⟨w.heap.size + 1, 0, none⟩ = some (.slice none 0 0) := zb.cells 0
    have f4 := zb.frozen 0
    have S1 : (fun V : World => V.cell? ⟨w.heap.size, 0, none⟩ = some (.slice A k c) ∧ V.cell? (at'.add nf) = some (.int .i64 t)) (wa.setCell ⟨w.heap.size + 1, 0, none⟩ (.slice A9 m c9)) :=
     ⟨(World.cell?_setCell_far wa ⟨w.heap.size + 1, 0, none⟩ _ _ (by show w.heap.size + 1 ≠ w.heap.size; omega)).trans (hX.out wa ta).1, (World.cell?_setCell_far wa ⟨w.heap.size + 1, 0, none⟩ _ _ (by rw [block_of_add]; exact Ne.symm hatn)).trans (hX.out wa ta).2⟩
    refine Last2.last_one (i := 7) (o := { dst := none, op := .store 31 (.tmp 4) (.tmp 46), type := _, pos := _, after := _, guard := _ }) (by kernel_rfl) rfl rfl (fun K hK => ?_)
    go_simp
    refine hK.out _ _ (fun _ => S1) ?_
    clear hK K
    try simp only [Act.put, Last2.s]
    refine Last2.last_take (i := 8) (d := some 5) (v := .int .i64 t) rfl rfl (by kernel_rfl) (by kernel_rfl) (by kernel_rfl) (fun _ _ _ h => h) rfl (by kernel_rfl) (by kernel_rfl) rfl ?_ S1 ?_
    ·(intro V hV; (try dsimp only at hV); go_simp; try with_reducible rfl)
    simp only [Act.put, Last2.s]
    refine Last2.last_take (i := 9) (d := some 6) (v := .bool true) rfl rfl (by kernel_rfl) (by kernel_rfl) (by kernel_rfl) (fun _ _ _ h => h) rfl (by kernel_rfl) (by kernel_rfl) rfl ?_ S1 ?_
    ·(intro V hV; (try dsimp only at hV); go_simp; try with_reducible rfl)
    simp only [Act.put, Last2.s]
    refine Last2.last_done (by kernel_rfl) ?_ _
    have TA := hid ta
    have O9 := hid o9
    have B9 := hid b9
    clear S0 S1 ta o9 b9 zb z4 f4
    have z5 : (wa.setCell ⟨w.heap.size + 1, 0, none⟩ (.slice A9 m c9)).cell? ⟨w.heap.size + 1, 0, none⟩ = some (.slice A9 m c9) := ((hX1.out wa TA.out).put 0 _).cells 0
    go_wp2_with fail
    refine bodyPost_ret (v := .tuple #[.agg #[.slice A9 m c9], .int .i64 t, .bool true]) (by simp [results, Try.results36, go_sem, z5]) rfl ?_
    rw [hS.out]
    refine ⟨A9, c9, by rw [HKL.out, HT.out], ?_, (BW.out.trans (TA.out.mono BW.out.size)).setCell (p := ⟨w.heap.size + 1, 0, none⟩) (by show w.heap.size ≤ w.heap.size + 1; omega) _⟩
    rw [HKL.out]
    have hlt2 := E1.out.lt
    have hsz2 := BB.out.size
    exact (O9.out.chg (Chg.set wa ⟨w.heap.size + 1, 0, none⟩ _) (fun x hx _ he => by have h9 : x = w.heap.size + 1 := he; have h8 : wr.drew.heap.size = wr.heap.size := rfl; omega)).mono (by have h8 : wr.drew.heap.size = wr.heap.size := rfl; omega)
end Go.Proofs.Ytdmcgkcpclepfaa.Krs
-- squeezed
