import Derived.Test.YtdmcgkcpclepfaaNup
import Derived.Test.YtdmcgkcpclepfaaSlot
import Derived.Test.YtdmcgkcpclepfaaSetM
import Derived.Test.YtdmcgkcpclepfaaSst
import Derived.Test.YtdmcgkcpclepfaaLast2
import Derived.Test.YtdmcgkcpclepfaaDefer2
import Derived.Test.YtdmcgkcpclepfaaSrun
import Derived.Deep.AppendLies
set_option linter.all false
namespace Go.Proofs.Ytdmcgkcpclepfaa.Nus
open Lib (hid)
open Go.ChangeShapes Go.WideShapes Go.ChangeAt Go.RowKit
open PL Mem Srun Sst To MarkP OwnS Res IntsP SlotP DeferP Nup
theorem blk_put1 {w : World} {g : Nat} {t : TypeId} {a b c u : Value} (h : Blk w g t #[a, b, c]) : Blk (w.setCell ⟨g, 1, none⟩ u) g t #[a, u, c] := by
 have := h.put 1 u
 simpa only [Last2.s] using this
theorem infoStep' : (Try.prog.info? 58).map (fun i => (i.zero, i.size, i.bytes)) = some (some (.agg #[.int .i64 0, .int .i64 0, .int .i64 0]), 3, 24) := by kernel_rfl
theorem mx_max (a b : Int) : mx a b = max a b := by unfold mx; split <;> omega
theorem rep_own {V : World} {g lo many : Nat} (hg' : V.heap[g]? = some (.cells (madeCells #[Value.slice none 0 0] many) 59)) (hlo : lo ≤ g) (hm : many ≤ 100) : OwnP V lo (.slice (some ⟨g, 0, none⟩) many many) (List.replicate many []) := by
 have hg : V.heap[g]? = some (.cells (madeCells #[Value.slice none 0 0] (many * 1)) 59) := by rw [Nat.mul_one]; exact hg'
 refine ⟨List.replicate many (.slice none 0 0), by simp, ?_, fun i xs hx => ?_, fun i j u u' k hu hu' hk => ?_⟩
 ·rw [List.length_replicate]
  refine ⟨by simp, .inr ⟨g, many, madeCells #[Value.slice none 0 0] (many * 1), rfl, hlo, hg, Nat.le_refl _, by unfold maxLen; omega, size_madeCells _ _, ?_⟩⟩
  rw [madeNil]
  simp
 ·have hi := (List.getElem?_eq_some_iff.1 hx).1
  rw [List.length_replicate] at hi
  rw [List.getElem?_replicate, if_pos hi] at hx
  cases hx
  exact ⟨.slice none 0 0, by rw [List.getElem?_replicate, if_pos hi], rfl, .inl ⟨rfl, rfl⟩⟩
 ·have hi := (List.getElem?_eq_some_iff.1 hu).1
  rw [List.length_replicate] at hi
  rw [List.getElem?_replicate, if_pos hi] at hu
  cases hu
  cases hk
set_option maxRecDepth 100000 in
set_option maxHeartbeats 8000000 in
theorem l9Numbered_any (n c ct mn : Nat) (A At : Option Addr) (p : Pg) (tn : List Int) (hp : okProg p = true) (hl : p.length = n) (hto : tn.length = n) (hmn : manyU tn n = (mn : Int)) (hm6 : mn ≤ 6) (hlo : ∀ (i : Nat) (t : Int), tn[i]? = some t → -1 ≤ t ∧ t < 6) (w : World) (hr : RdP w w.heap.size A p) (hrt : RdI w w.heap.size At tn) :
  Calls Try.prog 77 #[.agg #[.slice A n c], .slice At n ct] w fun e w' => ∃ A' c', e = .returned (.agg #[.slice A' mn c']) ∧ OwnP w' w.heap.size (.slice A' mn c') (numU p tn mn n) ∧ Below w.heap.size w w' := by
 obtain ⟨i1, hj, hy0, hy1, hy2⟩ := info_parts infoStep'
 obtain ⟨i0, hi, hz0, hz1, hz2⟩ := info_parts infoSteps
 have hmk := fun W => run_make_rowN (P := Try.prog) 29 59 i0 _ Try.underlying29 hi hz0 .i64 .i64 mn mn (Nat.le_refl _) (by rw [hz2]; omega) (by omega) W
 rw [hz1] at hmk
 obtain ⟨hn1, hn6, hsm8⟩ := okProg_parts hp
 rw [hl] at hn1 hn6
 have HRP := hid (fun (V : World) (b : Below w.heap.size w V) => (show RdP V w.heap.size A p from hr.below b))
 have HRT := hid (fun (V : World) (b : Below w.heap.size w V) => (show RdI V w.heap.size At tn from hrt.below b))
 have HTO := hid hto
 have HLO := hid hlo
 have HL := hid hl
 have HOK := hid (fun (i : Nat) (xs : List Tr) (h : p[i]? = some xs) => (hsm8 i xs h))
 have HMN := hid hmn
 have HMX := hid (fun (i : Nat) (t : Int) (h : tn[i]? = some t) => manyU_next h)
 have HML := hid (fun i => manyU_le (B := 6) (fun j t h => (hlo j t h).2) (by omega) i)
 have HMP := hid (fun i => manyU_pos tn i)
 have HGE := hid (fun (i : Nat) (t : Int) (h : tn[i]? = some t) => manyU_ge h n (by have := (List.getElem?_eq_some_iff.1 h).1; omega))
 clear hr hrt hto hlo hl hsm8 hmn hi hz0 hz2
 go_enter Try.func77, Try.ntmps77
 go_upto_region 1 with fail
 change (fun V => Code.wp _ _ _ _ V) _
 refine gen_world (X := fun V => Blk V w.heap.size 31 #[.slice A n c] ∧ Blk V (w.heap.size + 1) 31 #[.slice none 0 0] ∧ Below w.heap.size w V) ⟨heap2_0 w _ _, heap2_1 w _ _, App.Bl.alloc (App.Bl.alloc (App.Bl.refl _) _) _⟩ ?_
 rintro w1 ⟨x1, x2, b1⟩
 have X1 := hid x1
 have X2 := hid x2
 have B1 := hid b1
 have l2 := x2.lt
 clear x1 x2 b1
 go_wp2_with fail
 go_loopw [5, 6] (fun v i wr => ∃ k : Nat, k ≤ n ∧ i = .int .i64 k ∧ v = .int .i64 (manyU tn k) ∧ w1 = wr) (fun _ i _ => n - (intOf i).toNat)
 case atStart => exact ⟨0, Nat.zero_le _, rfl, rfl, rfl⟩
 case round =>
  obtain ⟨k, hk, rfl, rfl, rfl⟩ := hrel
  by_cases hlt : k < n
  ·obtain ⟨t, ht⟩ : ∃ t, tn[k]? = some t := ⟨_, List.getElem?_eq_getElem (by rw [HTO.out]; exact hlt)⟩
   obtain ⟨at', rfl, -, h0⟩ := (HRT.out w1 B1.out) k t ht
   obtain ⟨t1, t2⟩ := HLO.out k t ht
   have HX := hid (HMX.out k t ht)
   have hml := HML.out k
   have hmp := HMP.out k
   clear ht
   generalize manyU tn k = mk at *
   go_wp2_with fail
   refine (most_any mk (t + 1) _).mono ?_
   rintro e w2 ⟨rfl, rfl⟩
   rw [mx_max]
   go_wp2_with fail
   go_roundw
   case rel => exact ⟨k + 1, by omega, by go_num, by rw [HX.out], by first | rfl | trivial⟩
   case measure => simp [intOf]; omega
  ·obtain rfl : k = n := by omega
   rw [HMN.out]
   clear HMX HML HMP
   go_upto_region 7 with fail
   change (fun V => Code.wp _ _ _ _ V) _
   refine gen_world (X := fun V => OwnP V (w.heap.size + 2) (.slice (some ⟨w1.heap.size, 0, none⟩) mn mn) (List.replicate mn []) ∧ Blk V (w1.heap.size + 1) 31 #[.slice (some ⟨w1.heap.size, 0, none⟩) mn mn] ∧ Below w1.heap.size w1 V) ⟨rep_own (heap2_0 w1 _ _) (by omega) (by omega), heap2_1 w1 _ _, App.Bl.alloc (App.Bl.alloc (App.Bl.refl _) _) _⟩ ?_
   rintro ws0 ⟨op, xb, bb⟩
   have OP0 := hid op
   have XB0 := hid xb
   have BB0 := hid (B1.out.trans (bb.mono B1.out.size))
   have X2W := hid (X2.out.below bb l2)
   have X1W := hid (X1.out.below bb (by omega))
   have hb7 := xb.lt
   clear op xb bb X1 X2 hmk
   generalize hbx : w1.heap.size + 1 = b7 at *
   have hb7w : w.heap.size + 1 < b7 := by omega
   have hg7w : w.heap.size + 2 ≤ w1.heap.size ∧ w1.heap.size < b7 := ⟨by omega, by omega⟩
   clear hbx
   generalize w1.heap.size = g7 at *
   go_wp2_with fail
   go_loopw [8] (fun i wr => ∃ k2 : Nat, k2 ≤ k ∧ i = .int .i64 k2 ∧ OwnP wr (w.heap.size + 2) (.slice (some ⟨g7, 0, none⟩) mn mn) (numU p tn mn k2) ∧ Blk wr b7 31 #[.slice (some ⟨g7, 0, none⟩) mn mn] ∧ Blk wr w.heap.size 31 #[.slice A k c] ∧ Blk wr (w.heap.size + 1) 31 #[.slice none 0 0] ∧ Below w.heap.size w wr) (fun i _ => k - (intOf i).toNat)
   case atStart => exact ⟨0, Nat.zero_le _, rfl, OP0.out, XB0.out, X1W.out, X2W.out, BB0.out⟩
   case round =>
    obtain ⟨k2, hk2, rfl, hop, hx7, hx1, hx2, hbw⟩ := hrel
    clear OP0 XB0 X1W X2W BB0
    have OPW := hid hop
    have X7 := hid hx7
    have X1 := hid hx1
    have X2 := hid hx2
    have BW := hid hbw
    have hsz := hbw.size
    have h7lt := hx7.lt
    have h2lt := hx2.lt
    by_cases hlt2 : k2 < k
    ·obtain ⟨t, ht⟩ : ∃ t, tn[k2]? = some t := ⟨_, List.getElem?_eq_getElem (by rw [HTO.out]; exact hlt2)⟩
     obtain ⟨at', rfl, hat, h0⟩ := (HRT.out wr hbw) k2 t ht
     by_cases ht0 : t < 0
     ·have HX := hid (numU_no (p := p) (many := mn) ht ht0)
      clear ht hop hx7 hx1 hx2 hbw
      go_wp2_with fail
      go_roundw
      case rel => exact ⟨k2 + 1, by omega, by go_num, by rw [HX.out]; exact OPW.out, X7.out, X1.out, X2.out, BW.out⟩
      case measure => simp [intOf]; omega
     ·obtain ⟨tt, rfl⟩ := Int.eq_ofNat_of_zero_le (show 0 ≤ t by omega)
      obtain ⟨xs, hxs⟩ : ∃ xs, p[k2]? = some xs := ⟨_, List.getElem?_eq_getElem (by rw [HL.out]; exact hlt2)⟩
      have HX := hid (numU_yes (many := mn) ht (by omega) hxs)
      have hge := HGE.out k2 _ ht
      rw [HMN.out] at hge
      obtain ⟨h8, hst⟩ := HOK.out k2 xs hxs
      have hul := numU_len p tn mn k2
      obtain ⟨old, hold⟩ : ∃ old, (numU p tn mn k2)[tt]? = some old := ⟨_, List.getElem?_eq_getElem (by omega)⟩
      obtain ⟨ad, Ai, ci, rfl, had, hcr, hrd⟩ := (HRP.out wr hbw) k2 xs hxs
      obtain ⟨m, hm⟩ : ∃ m, xs.length = m := ⟨_, rfl⟩
      rw [hm] at hcr h8
      have HM := hid hm
      have HST := hid hst
      have HHT := hid (fun (V : World) (b : Below wr.heap.size wr V) => (show V.cell? (at'.add k2) = some (.int .i64 tt) from by obtain ⟨a2, e, -, h⟩ := (HRT.out V (hbw.trans (b.mono hbw.size))) k2 _ ht; cases e; exact h))
      have HHR := hid (fun (V : World) (b : Below wr.heap.size wr V) => (show V.cell? (ad.add k2) = some (.slice Ai m ci) from (b.cell (by rw [block_of_add]; omega)).trans hcr))
      have HHS := hid (fun (V : World) (b : Below wr.heap.size wr V) => (show Rd3 V w.heap.size Ai xs from hrd.below (b.mono hsz)))
      have HHN := hid (fun (V : World) (b : Below wr.heap.size wr V) => (show RdI V w.heap.size (some at') tn from HRT.out V (hbw.trans (b.mono hbw.size))))
      have y1 : wr.cell? ⟨w.heap.size, 0, none⟩ = some (.slice (some ad) k c) := hx1.cells 0
      have HOLD := hid hold
      have HTK := hid (fun (q : Nat) (s : Tr) (h : xs[q]? = some s) => (show (numB tn xs).take (q + 1) = (numB tn xs).take q ++ [numS tn s] from by unfold numB; rw [List.take_add_one, List.getElem?_map, h]; rfl))
      have HTA := hid (show (numB tn xs).take m = numB tn xs from List.take_of_length_le (by unfold numB; rw [List.length_map, HM.out]; exact Nat.le_refl _))
      have HNL := hid (show (numB tn xs).length = m from by unfold numB; rw [List.length_map, HM.out])
      clear hop hx7 hx1 hx2 hbw ht hxs hst hul hold hm hrd
      go_upto_region 12 with fail
      change (fun V => Code.wp _ _ _ _ V) _
      refine gen_world (X := fun V => V.ownsRow wr.heap.size 58 3 (.slice (some ⟨wr.heap.size, 0, none⟩) 0 0) 0 (cells3 ((numB tn xs).take 0)) ∧ Below wr.heap.size wr V) ⟨App.empty_own (heap1_0 wr _) (Nat.le_refl _), (Below.refl _ _).alloc (Nat.le_refl _) _⟩ ?_
      rintro wb ⟨ob0, bb0⟩
      have OB0 := hid ob0
      have BB0 := hid bb0
      clear ob0 bb0 y1 h0 hcr
      generalize hws : wr = ws at *
      clear hws
      have g0 := ws.heap.size
      go_wp2_with fail
      go_loopw [9, 10] (fun v i wr => ∃ (q : Nat) (Ab : Option Addr) (cb : Nat), q ≤ m ∧ i = .int .i64 q ∧ v = .slice Ab q cb ∧ wr.ownsRow ws.heap.size 58 3 (.slice Ab q cb) q (cells3 ((numB tn xs).take q)) ∧ Below ws.heap.size ws wr) (fun _ i _ => m - (intOf i).toNat)
      case atStart => exact ⟨0, _, _, Nat.zero_le _, rfl, rfl, OB0.out, BB0.out⟩
      case round =>
       obtain ⟨q, Ab, cb, hq, rfl, rfl, hob, hbb⟩ := hrel
       clear OB0 BB0
       have OB := hid hob
       have BB := hid hbb
       have y1 : wr.cell? ⟨w.heap.size, 0, none⟩ = some (.slice (some ad) k c) := (X1.out.below hbb X1.out.lt).cells 0
       have y2 := HHR.out wr hbb
       have hsb := hbb.size
       by_cases hqm : q < m
       ·obtain ⟨⟨s0, s1, s2⟩, hs⟩ : ∃ s, xs[q]? = some s := ⟨_, List.getElem?_eq_getElem (by rw [HM.out]; exact hqm)⟩
        obtain ⟨sd, rfl, has, q0, q1, q2⟩ := (HHS.out wr hbb) q _ hs
        dsimp only at q0 q1 q2
        by_cases h45 : s0 = 4 ∨ s0 = 5
        ·have hok := HST.out _ (List.mem_of_getElem? hs)
         unfold okStep at hok
         rw [if_neg (by dsimp only; omega), if_neg (by dsimp only; omega), if_pos h45, Bool.and_eq_true, Bool.and_eq_true, decide_eq_true_eq, decide_eq_true_eq] at hok
         obtain ⟨⟨ha0, ha1⟩, -⟩ := hok
         dsimp only at ha0 ha1
         obtain ⟨a, rfl⟩ := Int.eq_ofNat_of_zero_le ha0
         obtain ⟨t', ht'⟩ : ∃ t', tn[a]? = some t' := ⟨_, List.getElem?_eq_getElem (by rw [HTO.out]; have := HL.out; omega)⟩
         obtain ⟨at2, e2, -, h2⟩ := (HHN.out wr hbb) a t' ht'
         obtain rfl : at' = at2 := by simpa using e2
         have han : (a : Int) < (k : Int) := by have := HL.out; omega
         have HNB := hid (show (numB tn xs).take (q + 1) = (numB tn xs).take q ++ [(s0, t', s2)] from by
          rw [HTK.out q _ hs]
          unfold numS
          rw [if_pos h45, Int.toNat_natCast, List.getD_eq_getElem?_getD, ht']
          rfl)
         have hatb : at'.block < wr.heap.size := by omega
         have h2a : ∀ o, (wr.alloc o).cell? (at'.add a) = some (.int .i64 t') := fun o => (((Below.refl wr.heap.size wr).alloc (Nat.le_refl _) o).cell (by rw [block_of_add]; exact hatb)).trans h2
         clear hs hob hbb e2 ht' ha0 ha1
         rcases h45 with rfl | rfl
         ·go_upto_region 18 with fail
          change (fun V => Code.wp _ _ _ _ V) _
          refine gen_world (X := fun V => Blk V wr.heap.size 58 #[.int .i64 4, .int .i64 t', .int .i64 s2] ∧ Below wr.heap.size wr V) ⟨heap1_0 wr _, (Below.refl _ _).alloc (Nat.le_refl _) _⟩ ?_
          rintro Z ⟨xz, bz⟩
          have OZ := hid (own_below (B' := wr.heap.size) OB.out bz (Nat.le_refl _))
          have BZ := hid (BB.out.trans (bz.mono BB.out.size))
          have c0 := xz.cells 0
          have c1 := xz.cells 1
          have c2 := xz.cells 2
          have hzs := BZ.out.size
          clear xz bz y1 y2 q0 q1 q2 h2 h2a
          go_wp2_with (at_builtin; refine wpList_append_lies _ rfl _ _ 59 rfl ws.heap.size 58 i1 _ 3 24 Try.underlying59 hj hy0 hy1 hy2 rfl (by decide) _ _ _ rfl (World.ownsRow.alloc OZ.out _) ⟨Z.heap.size, 0, none⟩ 1 1 [.int .i64 4, .int .i64 t', .int .i64 s2] rfl rfl ?cn1 ?co1 (by decide) ?c631 ?cb1 ?cl1 (Z.heap.size + 1) ?cH1 ?next1)
          (try (case cn1 => exact World.news_of_block (cs := #[.int .i64 4, .int .i64 t', .int .i64 s2]) (t := 58) (fr := (0, 0)) (heap_alloc_new _ _)))
          case co1 => first | (intro u hu; simp at hu; rcases hu with rfl | rfl | rfl <;> rfl) | simp [Value.oneCell']
          case c631 => first | (unfold maxLen; omega) | omega
          case cb1 => omega
          (try (case cl1 => first | (simp; omega) | omega))
          (try (case cH1 => simp))
          case next1 =>
           intro g2 cap2 w2' hown2 hgrow2 hat2 hlt2
           have c2' : Chg (fun y => (Value.slice Ab q cb).ownBlock = some y) Z w2' := (Chg.alloc _ Z _).trans (Chg.of_grown hgrow2) (fun x _ hx => hx.symm)
           have B2 := hid (BZ.out.trans (c2'.below BZ.out.size (fun x hx e => by have := (World.ownsRow.lt OZ.out x e).1; omega)))
           have O2 := hid hown2
           clear hown2 hgrow2 hat2 c2'
           go_wp2_with fail
           go_roundw
           case rel => exact ⟨q + 1, some ⟨g2, 0, none⟩, cap2, by omega, by go_num, rfl, by rw [HNB.out, cells3_append]; exact O2.out, B2.out⟩
           case measure => simp [intOf]; omega
         ·go_upto_region 18 with fail
          change (fun V => Code.wp _ _ _ _ V) _
          refine gen_world (X := fun V => Blk V wr.heap.size 58 #[.int .i64 5, .int .i64 t', .int .i64 s2] ∧ Below wr.heap.size wr V) ⟨heap1_0 wr _, (Below.refl _ _).alloc (Nat.le_refl _) _⟩ ?_
          rintro Z ⟨xz, bz⟩
          have OZ := hid (own_below (B' := wr.heap.size) OB.out bz (Nat.le_refl _))
          have BZ := hid (BB.out.trans (bz.mono BB.out.size))
          have c0 := xz.cells 0
          have c1 := xz.cells 1
          have c2 := xz.cells 2
          have hzs := BZ.out.size
          clear xz bz y1 y2 q0 q1 q2 h2 h2a
          go_wp2_with (at_builtin; refine wpList_append_lies _ rfl _ _ 59 rfl ws.heap.size 58 i1 _ 3 24 Try.underlying59 hj hy0 hy1 hy2 rfl (by decide) _ _ _ rfl (World.ownsRow.alloc OZ.out _) ⟨Z.heap.size, 0, none⟩ 1 1 [.int .i64 5, .int .i64 t', .int .i64 s2] rfl rfl ?cn2 ?co2 (by decide) ?c632 ?cb2 ?cl2 (Z.heap.size + 1) ?cH2 ?next2)
          (try (case cn2 => exact World.news_of_block (cs := #[.int .i64 5, .int .i64 t', .int .i64 s2]) (t := 58) (fr := (0, 0)) (heap_alloc_new _ _)))
          case co2 => first | (intro u hu; simp at hu; rcases hu with rfl | rfl | rfl <;> rfl) | simp [Value.oneCell']
          case c632 => first | (unfold maxLen; omega) | omega
          case cb2 => omega
          (try (case cl2 => first | (simp; omega) | omega))
          (try (case cH2 => simp))
          case next2 =>
           intro g2 cap2 w2' hown2 hgrow2 hat2 hlt2
           have c2' : Chg (fun y => (Value.slice Ab q cb).ownBlock = some y) Z w2' := (Chg.alloc _ Z _).trans (Chg.of_grown hgrow2) (fun x _ hx => hx.symm)
           have B2 := hid (BZ.out.trans (c2'.below BZ.out.size (fun x hx e => by have := (World.ownsRow.lt OZ.out x e).1; omega)))
           have O2 := hid hown2
           clear hown2 hgrow2 hat2 c2'
           go_wp2_with fail
           go_roundw
           case rel => exact ⟨q + 1, some ⟨g2, 0, none⟩, cap2, by omega, by go_num, rfl, by rw [HNB.out, cells3_append]; exact O2.out, B2.out⟩
           case measure => simp [intOf]; omega
        ·have HNB := hid (show (numB tn xs).take (q + 1) = (numB tn xs).take q ++ [(s0, s1, s2)] from by
          rw [HTK.out q _ hs]
          unfold numS
          rw [if_neg h45])
         have k4 : (s0 == 4) = false := by simp; omega
         have k5 : (s0 == 5) = false := by simp; omega
         clear hs hob hbb h45
         go_upto_region 18 with fail
         change (fun V => Code.wp _ _ _ _ V) _
         refine gen_world (X := fun V => Blk V wr.heap.size 58 #[.int .i64 s0, .int .i64 s1, .int .i64 s2] ∧ Below wr.heap.size wr V) ⟨heap1_0 wr _, (Below.refl _ _).alloc (Nat.le_refl _) _⟩ ?_
         rintro Z ⟨xz, bz⟩
         have OZ := hid (own_below (B' := wr.heap.size) OB.out bz (Nat.le_refl _))
         have BZ := hid (BB.out.trans (bz.mono BB.out.size))
         have c0 := xz.cells 0
         have c1 := xz.cells 1
         have c2 := xz.cells 2
         have hzs := BZ.out.size
         clear xz bz y1 y2 q0 q1 q2
         go_wp2_with (at_builtin; refine wpList_append_lies _ rfl _ _ 59 rfl ws.heap.size 58 i1 _ 3 24 Try.underlying59 hj hy0 hy1 hy2 rfl (by decide) _ _ _ rfl (World.ownsRow.alloc OZ.out _) ⟨Z.heap.size, 0, none⟩ 1 1 [.int .i64 s0, .int .i64 s1, .int .i64 s2] rfl rfl ?cn3 ?co3 (by decide) ?c633 ?cb3 ?cl3 (Z.heap.size + 1) ?cH3 ?next3)
         (try (case cn3 => exact World.news_of_block (cs := #[.int .i64 s0, .int .i64 s1, .int .i64 s2]) (t := 58) (fr := (0, 0)) (heap_alloc_new _ _)))
         case co3 => first | (intro u hu; simp at hu; rcases hu with rfl | rfl | rfl <;> rfl) | simp [Value.oneCell']
         case c633 => first | (unfold maxLen; omega) | omega
         case cb3 => omega
         (try (case cl3 => first | (simp; omega) | omega))
         (try (case cH3 => simp))
         case next3 =>
          intro g2 cap2 w2' hown2 hgrow2 hat2 hlt2
          have c2' : Chg (fun y => (Value.slice Ab q cb).ownBlock = some y) Z w2' := (Chg.alloc _ Z _).trans (Chg.of_grown hgrow2) (fun x _ hx => hx.symm)
          have B2 := hid (BZ.out.trans (c2'.below BZ.out.size (fun x hx e => by have := (World.ownsRow.lt OZ.out x e).1; omega)))
          have O2 := hid hown2
          clear hown2 hgrow2 hat2 c2'
          go_wp2_with fail
          go_roundw
          case rel => exact ⟨q + 1, some ⟨g2, 0, none⟩, cap2, by omega, by go_num, rfl, by rw [HNB.out, cells3_append]; exact O2.out, B2.out⟩
          case measure => simp [intOf]; omega
       ·obtain rfl : q = m := by omega
        obtain ⟨gq, Ao, co, e7, hlo7, hgl, hcell, hfrz, -, hbd, hne, hput⟩ := OwnH_slot (OwnH.of OPW.out) HOLD.out
        obtain rfl : g7 = gq := by simpa using e7
        have z7 : wr.cell? ⟨b7, 0, none⟩ = some (.slice (some ⟨g7, 0, none⟩) mn mn) := (X7.out.below hbb X7.out.lt).cells 0
        have z8 := HHT.out wr hbb
        have z9 : wr.drew.cell? ⟨g7, tt, none⟩ = some (.slice Ao old.length co) := (hbb.drew.cell (p := ⟨g7, tt, none⟩) hgl).trans hcell
        have fr := hfrz wr.drew (Chg.of_below hbb.drew)
        have HPT := hid hput
        rw [HTA.out] at hob
        have OBX := hid (own_mono hob (show w.heap.size + 2 ≤ ws.heap.size by omega))
        have hobl : ∀ x, (Value.slice Ab q cb).ownBlock = some x → ws.heap.size ≤ x := fun x hx => (World.ownsRow.lt hob x hx).1
        have HOBL := hid hobl
        clear hob hbb hfrz hput hbd hne hcell e7 hobl OB
        go_wp2_with fail
        have S0 : (fun V : World => V.cell? ⟨b7, 0, none⟩ = some (.slice (some ⟨g7, 0, none⟩) mn mn) ∧ V.cell? (at'.add k2) = some (.int .i64 tt)) wr.drew := ⟨z7, z8⟩
        refine Last2.region_last [8] (fun V : World => V.cell? ⟨b7, 0, none⟩ = some (.slice (some ⟨g7, 0, none⟩) mn mn) ∧ V.cell? (at'.add k2) = some (.int .i64 tt)) (by kernel_rfl) ?_
        refine Last2.tk 0 76 (.pointer (some ⟨b7, 0, none⟩)) S0 ?_
        simp only [Act.put, Last2.s]
        refine Last2.tk 1 77 (.slice (some ⟨g7, 0, none⟩) mn mn) S0 ?_
        simp only [Act.put, Last2.s]
        refine Last2.tk 2 78 (.slice (some at') k ct) S0 ?_
        simp only [Act.put, Last2.s]
        refine Last2.tk 3 79 (.int .i64 k2) S0 ?_
        simp only [Act.put, Last2.s]
        refine Last2.tk 4 80 (.pointer (some (at'.add k2))) S0 ?_
        simp only [Act.put, Last2.s]
        refine Last2.tk 5 81 (.int .i64 tt) S0 ?_
        simp only [Act.put, Last2.s]
        refine Last2.tk 6 82 (.slice Ab q cb) S0 ?_
        simp only [Act.put, Last2.s]
        refine Last2.tk 7 83 (.pointer (some ⟨g7, tt, none⟩)) S0 ?_
        simp only [Act.put, Last2.s]
        refine Last2.last_one (i := 8) (o := { dst := none, op := .store 59 (.tmp 83) (.tmp 82), type := _, pos := _, after := _, guard := _ }) (by kernel_rfl) rfl rfl (fun K hK => ?_)
        have fr0 := fr tt
        go_simp
        refine hK.out _ _ (fun h => (h (by decide)).elim) ?_
        clear hK K
        try simp only [Act.put, Last2.s]
        refine Last2.last_done (by kernel_rfl) ?_ _
        have BD := BB
        have N1 := hid (HPT.out wr (.slice Ab q cb) (numB tn xs) (Chg.of_below BD.out) (by rw [HNL.out]; exact OBX.out) (fun x hx => .inr (HOBL.out x hx)))
        have N7 := hid ((X7.out.below BD.out X7.out.lt).far ⟨g7, tt, none⟩ (.slice Ab q cb) (by show b7 ≠ g7; omega))
        have N8 := hid ((X1.out.below BD.out X1.out.lt).far ⟨g7, tt, none⟩ (.slice Ab q cb) (by show w.heap.size ≠ g7; omega))
        have N9 := hid ((X2.out.below BD.out X2.out.lt).far ⟨g7, tt, none⟩ (.slice Ab q cb) (by show w.heap.size + 1 ≠ g7; omega))
        have NB := hid ((BW.out.trans (BD.out.mono BW.out.size)).setCell (p := ⟨g7, tt, none⟩) (by show w.heap.size ≤ g7; omega) (.slice Ab q cb))
        clear S0 z7 z8 z9 fr fr0
        generalize wr.setCell ⟨g7, tt, none⟩ (.slice Ab q cb) = wz at *
        have ND := hid ((Below.refl wz.heap.size wz).drew)
        go_wp2_with fail
        go_roundw
        case rel => exact ⟨k2 + 1, by omega, by go_num, by rw [HX.out, Int.toNat_natCast]; exact N1.out.below ND.out, N7.out.below ND.out N7.out.lt, N8.out.below ND.out N8.out.lt, N9.out.below ND.out N9.out.lt, NB.out.drew⟩
        case measure => simp [intOf]; omega
    ·obtain rfl : k2 = k := by omega
     have z7 : wr.cell? ⟨b7, 0, none⟩ = some (.slice (some ⟨g7, 0, none⟩) mn mn) := hx7.cells 0
     have z4 : wr.cell? ⟨w.heap.size + 1, 0, none⟩ = some (.slice none 0 0) := hx2.cells 0
     have f4 := hx2.frozen 0
     clear hop hx7 hx1 hx2 hbw
     go_wp2_with fail
     refine bodyPost_ret (v := .agg #[.slice (some ⟨g7, 0, none⟩) mn mn]) (by simp [results, Try.results77, go_sem, z4]) rfl ⟨_, _, rfl, ?_, BW.out.setCell (p := ⟨w.heap.size + 1, 0, none⟩) (by show w.heap.size ≤ w.heap.size + 1; omega) _⟩
     exact (OPW.out.chg (Chg.set wr ⟨w.heap.size + 1, 0, none⟩ _) (fun x hx _ he => by have h9 : x = w.heap.size + 1 := he; omega)).mono (by omega)
end Go.Proofs.Ytdmcgkcpclepfaa.Nus
-- squeezed
