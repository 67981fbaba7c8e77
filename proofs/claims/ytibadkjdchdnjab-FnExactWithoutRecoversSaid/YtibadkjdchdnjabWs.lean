import Derived.Test.YtibadkjdchdnjabWr
import Derived.StillTailTactics
set_option linter.all false
namespace Go.Proofs.Ytibadkjdchdnjab.Ws
open Lib (hid)
open Go.ChangeShapes Go.WideShapes Go.ChangeAt Go.RowKit
open PL Mem Sst To MarkP Res Prg PrgS StpS IntsP DeferP DeferW Gua LawI Wr
set_option maxRecDepth 100000 in
set_option maxHeartbeats 8000000 in
theorem wrS_any (lo n c : Nat) (A : Option Addr) (p : Pg) (hn : n ≤ 2000000) (hl : p.length = n) (hsm : Small p 2000000) (w : World) (ho : OwnP w lo (.slice A n c) p) :
  Calls Try.prog 23 #[.agg #[.slice A n c]] w (ProgR (withoutR p) w) := by
 have hF := hid (fun w hr hB => l2Program_any w.heap.size A n c p (by omega) hl (hsm.mono (by omega)) w hr hB)
 have h2 : ∀ o o' : Obj, Below w.heap.size w ((w.alloc o).alloc o') := fun o o' => ((Below.refl _ _).alloc (Nat.le_refl _) _).alloc (by simp) _
 have H2 := hid h2
 have hO := hid ho
 clear ho h2
 have hk0 : ∀ w1 : World, Below ((w.alloc (.cells #[.slice A n c] 31)).alloc (.cells #[.slice none 0 0] 31)).heap.size ((w.alloc (.cells #[.slice A n c] 31)).alloc (.cells #[.slice none 0 0] 31)) w1 →
   Blk w1 w.heap.size 31 #[.slice A n c] ∧ Blk w1 (w.heap.size + 1) 31 #[.slice none 0 0] ∧ Below w.heap.size w w1 ∧ w.heap.size + 2 ≤ w1.heap.size :=
  fun w1 b => ⟨Blk.below (heap2_0 _ _ _) b (by simp; omega), Blk.below (heap2_1 _ _ _) b (by simp), (H2.out _ _).trans (b.mono (by simp; omega)), by have := b.size; simp at this; omega⟩
 have HK := hid hk0
 clear hk0
 cases hok : okProg p with
 | false =>
  have hs := hid (show withoutR p = ([], false) by unfold withoutR; rw [hok]; rfl)
  rw [hok] at hF
  clear hok hl hsm
  go_enter Try.func23, Try.ntmps23
  go_wp2_with fail
  refine (hF.out _ (hO.out.below (H2.out _ _)).rd (Nat.le_refl _)).mono ?_
  rintro e w1 ⟨rfl, b1⟩
  obtain ⟨d0, d1, bb1, s1⟩ := HK.out w1 b1
  have z0 : w1.cell? ⟨w.heap.size, 0, none⟩ = some (.slice A n c) := d0.cells 0
  have z1 : w1.cell? ⟨w.heap.size + 1, 0, none⟩ = some (.slice none 0 0) := d1.cells 0
  have f1 := d1.frozen 0
  clear d0 d1 b1
  go_wp2_with fail
  exact bodyPost_ret (v := .tuple #[.agg #[.slice none 0 0], .bool false]) (by simp [results, Try.results23, go_sem, z1]) rfl (by rw [hs.out]; exact ⟨none, 0, rfl, own_nil _ _, bb1.setCell (by show w.heap.size ≤ w.heap.size + 1; omega) _⟩)
 | true =>
  have hs := hid (show withoutR p = (p.map bodyR, true) by unfold withoutR; rw [hok]; rfl)
  rw [hok] at hF
  obtain ⟨hn1, hn6, hsm8⟩ := okProg_parts hok
  have hC := hid (fun (W : World) (h : OwnP W lo (.slice A n c) p) => OwnS.l2Own_any lo n c A p (by omega) hl (fun i xs h => Nat.le_trans (hsm8 i xs h).1 (by omega)) W h)
  have hRows := hid (fun (j : Nat) (hj : j < n) => (show ∃ xs, p[j]? = some xs ∧ xs.length ≤ 8 from ⟨_, List.getElem?_eq_getElem (by omega), (hsm8 j _ (List.getElem?_eq_getElem (by omega))).1⟩))
  have hL := hid hl
  rw [hl] at hn1 hn6
  clear hl hsm hok hsm8
  go_enter Try.func23, Try.ntmps23
  go_wp2_with fail
  refine (hF.out _ (hO.out.below (H2.out _ _)).rd (Nat.le_refl _)).mono ?_
  rintro e w1 ⟨rfl, b1⟩
  obtain ⟨d0, d1, bb1, s1⟩ := HK.out w1 b1
  have z0 : w1.cell? ⟨w.heap.size, 0, none⟩ = some (.slice A n c) := d0.cells 0
  clear b1
  go_wp2_with fail
  refine (hC.out _ (hO.out.below bb1)).mono ?_
  rintro e w2 ⟨A2, c2, rfl, o2, b2⟩
  have D1 := hid (d1.below b2 d1.lt)
  have bb2 := hid (bb1.trans (b2.mono bb1.size))
  have s2 := b2.size
  obtain ⟨xs0, hx0, -⟩ := hRows.out 0 (by omega)
  obtain ⟨g, Ai0, ci0, rfl, -, -, -, -⟩ := (OwnH.of o2).row hx0
  have OH := hid (OwnH.of o2)
  clear z0 d0 d1 bb1 b2 o2 hx0 hC hF
  go_upto_region 4 with fail
  change (fun V => Code.wp _ _ _ _ V) _
  refine gen_world (X := fun V => Blk V w2.heap.size 31 #[.slice (some ⟨g, 0, none⟩) n c2] ∧ Below w2.heap.size w2 V) ⟨heap1_0 w2 _, (Below.refl _ _).alloc (Nat.le_refl _) _⟩ ?_
  rintro W3 ⟨B3, b3⟩
  have O3 := hid (OH.out.below b3)
  have D3 := hid (D1.out.below b3 D1.out.lt)
  have D1l := D1.out.lt
  have B3' := hid B3
  have b3' := hid b3
  have s3 := B3.lt
  have y0 : W3.cell? ⟨w2.heap.size, 0, none⟩ = some (.slice (some ⟨g, 0, none⟩) n c2) := B3.cells 0
  clear b3 B3 OH D1
  generalize hh : w2.heap.size = hi at *
  go_wp2_with fail
  go_loopw [5] (fun i wr => ∃ j : Nat, j ≤ n ∧ i = .int .i64 j ∧ OwnH wr w1.heap.size hi (.slice (some ⟨g, 0, none⟩) n c2) (gpart bodyR p j) ∧ Chg (fun b => w1.heap.size ≤ b ∧ b < hi) W3 wr) (fun i _ => n - (intOf i).toNat)
  case atStart => exact ⟨0, Nat.zero_le _, rfl, by rw [gpart_zero]; exact O3.out, Chg.refl _ _⟩
  case round =>
   obtain ⟨j, hj, rfl, hown, hch⟩ := hrel
   clear y0 O3
   have HO := hid hown
   have HC := hid hch
   have hsz := hch.size
   have HBX := hid (B3'.out.chg hch (fun hc => by omega))
   have y0 : wr.cell? ⟨hi, 0, none⟩ = some (.slice (some ⟨g, 0, none⟩) n c2) := HBX.out.cells 0
   clear hch
   by_cases hlt : j < n
   ·obtain ⟨xs, hx, hx8⟩ := hRows.out j hlt
    have hgx := gpart_at bodyR p j xs hx
    obtain ⟨g', Ai, ci, e1, hc2, hrow, hbd, hput⟩ := hown.row hgx
    cases e1
    have HNX := hid (gpart_next bodyR p j xs hx)
    have hne : (Value.slice Ai xs.length ci).ownBlock ≠ some g := by
     obtain ⟨vals, _, ho2, _⟩ := hown.own
     exact App.own_ne ho2 hrow (by decide) rfl
    have hgl : g < wr.heap.size := World.block_lt_of_cell? wr _ hc2
    obtain ⟨m, hm⟩ : ∃ m, xs.length = m := ⟨_, rfl⟩
    rw [hm] at hx8 hc2 hrow hbd hput hne
    have HM := hid hm
    have HR := hid hrow
    have HB := hid hbd
    have HP := hid hput
    have HIN := hid (fun (V : World) (h : Chg (fun b => (Value.slice Ai m ci).ownBlock = some b) wr V) => (show V.cell? ⟨hi, 0, none⟩ = some (.slice (some ⟨g, 0, none⟩) n c2) ∧ V.cell? ⟨g, j, none⟩ = some (.slice Ai m ci) from ⟨(HBX.out.chg h (fun hc => by have := hbd _ hc; omega)).cells 0, (h.cell (p := ⟨g, j, none⟩) hgl hne).trans hc2⟩))
    clear hown hgx hrow hbd hput hx hm hc2 hne hgl
    go_wp2_with fail
    go_loopw [6] (fun i V => ∃ k : Nat, k ≤ m ∧ i = .int .i64 k ∧ V.ownsRow w1.heap.size 65 3 (.slice Ai m ci) m (cells3 (dpart setR xs k)) ∧ Chg (fun b => (Value.slice Ai m ci).ownBlock = some b) wr V) (fun i _ => m - (intOf i).toNat)
    case atStart => exact ⟨0, Nat.zero_le _, rfl, by rw [show dpart setR xs 0 = xs by simp [dpart]]; exact HR.out, Chg.refl _ _⟩
    case round =>
     obtain ⟨k, hk, rfl, hrow, hch⟩ := hrel
     obtain ⟨q0, q1⟩ := HIN.out _ hch
     clear y0
     have HC5 := hid hch
     have HRW := hid hrow
     by_cases hkm : k < m
     ·obtain ⟨s, hs1⟩ : ∃ s, xs[k]? = some s := ⟨_, List.getElem?_eq_getElem (by rw [HM.out]; exact hkm)⟩
      obtain ⟨gi, rfl, hgi, -, -, -, -, v0, v1, v2, fr0, fr1⟩ := own_at hrow (part_at setR xs k s hs1) hkm
      have fr2 := hrow.frozenAt (k * 3 + 2)
      have HST := hid hs1
      by_cases h7 : s.1 = 7
      ·have HS7 := hid h7
       rw [h7] at v0
       have HRD := hid (own_below (w' := wr.drew) (B' := wr.heap.size) hrow (Below.refl _ _).drew (Nat.le_refl _))
       have HCD := hid (hch.trans (Chg.of_below (C := fun _ => False) (Below.refl wr.heap.size wr).drew) (fun _ _ h => h.elim))
       have d0 : wr.drew.cell? ⟨hi, 0, none⟩ = some (.slice (some ⟨g, 0, none⟩) n c2) := q0
       have d1 : wr.drew.cell? ⟨g, j, none⟩ = some (.slice (some ⟨gi, 0, none⟩) m ci) := q1
       have d2 : wr.drew.cell? ⟨gi, k * 3, none⟩ = some (.int .i64 7) := v0
       have d3 : wr.drew.cell? ⟨gi, k * 3 + 1, none⟩ = some (.int .i64 s.2.1) := v1
       have d4 : wr.drew.cell? ⟨gi, k * 3 + 2, none⟩ = some (.int .i64 s.2.2) := v2
       have d5 : wr.drew.frozen? ⟨gi, k * 3, none⟩ = false := fr0
       have d6 : wr.drew.frozen? ⟨gi, k * 3 + 1, none⟩ = false := fr1
       have d7 : wr.drew.frozen? ⟨gi, k * 3 + 2, none⟩ = false := fr2
       clear hrow hch hs1 h7
       go_wp2_with fail
       refine wp_region_still_tail 17 (by kernel_rfl) (by kernel_rfl) ?_
       simp only [List.take_succ_cons, List.take_zero, List.drop_succ_cons, List.drop_zero]
       change wpStill _ _ wr.drew _ _ _
       repeat still_step
       refine wpStill_nil ?_
       change wpList _ _ _ _ _ wr.drew
       clear q0 q1 v0 v1 v2 fr0 fr1 fr2
       generalize wr.drew = w4 at *
       go_wp2_with fail
       go_roundw
       case rel =>
        refine ⟨k + 1, by omega, by go_num, ?_, chg_set3 HCD.out rfl _ _ _ _ _ _⟩
        have := own_set3 (s := setR s) HRD.out rfl (k := k) (by rw [part_length setR xs k (by rw [HM.out]; omega), HM.out]; exact hkm)
        rw [part_next setR xs k s HST.out, show setR s = ((1 : Int), s.2.1, (0 : Int)) from if_pos HS7.out] at this
        exact this
       case measure => simp [intOf]; omega
      ·have HN7 := hid (part_same setR xs k s hs1 (if_neg h7))
       have k7 : (s.1 == 7) = false := by simpa using h7
       clear hrow hch hs1 h7
       go_wp2_with fail
       go_roundw
       case rel => exact ⟨k + 1, by omega, by go_num, by rw [← HN7.out]; exact HRW.out, HC5.out⟩
       case measure => simp [intOf]; omega
     ·obtain rfl : k = m := by omega
      rw [part_all setR xs k HM.out.symm] at hrow
      have HRN := hid hrow
      have hszV := hch.size
      clear hrow hch
      go_wp2_with fail
      go_roundw
      case rel =>
       refine ⟨j + 1, by omega, by go_num, ?_, ?_⟩
       ·rw [← HNX.out]
        exact HP.out _ (bodyR xs) ((List.length_map ..).trans HM.out) HRN.out HC5.out
       ·exact HC.out.trans (HC5.out.mono (fun q _ hq => HB.out q hq)) (fun _ _ h => h)
      case measure => simp [intOf]; omega
   ·obtain rfl : j = n := by omega
    have hb6 := (B3'.out.chg HC.out (fun hc => by omega))
    have hb1 := (D3.out.chg HC.out (fun hc => by omega))
    have z6 : wr.cell? ⟨hi, 0, none⟩ = some (.slice (some ⟨g, 0, none⟩) j c2) := hb6.cells 0
    have z1 : wr.cell? ⟨w.heap.size + 1, 0, none⟩ = some (.slice none 0 0) := hb1.cells 0
    have f1 := hb1.frozen 0
    clear hb6 hb1
    go_wp2_with fail
    refine bodyPost_ret (v := .tuple #[.agg #[.slice (some ⟨g, 0, none⟩) j c2], .bool true]) (by simp [results, Try.results23, go_sem, z1]) rfl ?_
    have fin := HO.out
    rw [gpart_all bodyR p j hL.out.symm] at fin
    have fin2 := (fin.keep (w' := wr.setCell ⟨w.heap.size + 1, 0, none⟩ (.slice (some ⟨g, 0, none⟩) j c2)) (fun b h1 _ => Below.heap_setCell _ _ _ _ (by show b ≠ w.heap.size + 1; omega))).own.mono (Nat.le_trans (Nat.le_add_right _ 2) s1)
    rw [hs.out]
    have hl : (p.map bodyR).length = j := (List.length_map ..).trans hL.out
    refine ⟨_, _, by rw [hl], by rw [hl]; exact fin2, ?_⟩
    have hwh : w.heap.size ≤ hi := by omega
    have t := (bb2.out.trans (b3'.out.mono hwh)).trans (HC.out.below (B := w.heap.size) (by have := b3'.out.size; omega) (fun x hx hx' => by omega))
    exact t.setCell (by show w.heap.size ≤ w.heap.size + 1; omega) _
end Go.Proofs.Ytibadkjdchdnjab.Ws
-- squeezed
