import Derived.Test.YthejnpignlhgiaaIrp
import Derived.Test.YthejnpignlhgiaaM12
import Derived.Test.YthejnpignlhgiaaM2
import Derived.Deep.AppendLies
import Derived.Test.YthejnpignlhgiaaM3
set_option linter.all false
namespace Go.Proofs.Ythejnpignlhgiaa.SaysP
open Lib (hid)
open Go.ChangeShapes Go.WideShapes Go.ChangeAt Go.RowKit
open PL Mem Srun Sst Ssim Smk To OwnS AskP Res Swhole Sout Irp RunF IntsP LawI
theorem infoInt : (Try.prog.info? 3).map (fun i => (i.zero, i.size, i.bytes)) = some (some (.int .i64 0), 1, 8) := by kernel_rfl
def saids (t : List Tr) : List Int := (t.filter (fun e => e.1 == 4)).map (fun e => e.2.2)
theorem saids_take {t : List Tr} {j : Nat} {e : Tr} (h : t[j]? = some e) : saids (t.take (j + 1)) = if e.1 = 4 then saids (t.take j) ++ [e.2.2] else saids (t.take j) := by
 rw [List.take_add_one, h]
 unfold saids
 rw [Option.toList_some, List.filter_append, List.map_append]
 split
 ·rename_i h4
  simp [h4]
 ·rename_i h4
  simp [h4]
theorem saids_len (t : List Tr) : (saids t).length ≤ t.length := by
 unfold saids
 rw [List.length_map]
 exact List.length_filter_le _ _
def saidR (p : Pg) (f arg fuel : Int) : List Int × Bool := (saids (runR p f arg fuel).1.trace, (runR p f arg fuel).2)
theorem saidR_len (p : Pg) (f arg fuel : Int) : (saidR p f arg fuel).1.length ≤ 100000 := Nat.le_trans (saids_len _) (runR_len p f arg fuel)
theorem out_below {B : Nat} {w1 wr wa w' : World} {v : Value} {xs : List Int} (hb : Below B w1 wr) (ho : OwnI wr B v xs) (ha : Below wr.heap.size wr wa) (hg : wa.grownBy w' v.ownBlock) (hB : B ≤ w1.heap.size) : Below B w1 w' := by
 have hs := hb.size
 have c1 : Chg (fun y => v.ownBlock = some y) wr w' := (Chg.of_below ha).trans (Chg.of_grown hg) (fun x _ hx => hx.symm)
 exact hb.trans (c1.below (by omega) (fun x hx hc => by have := (World.ownsRow.lt ho x hc).1; omega))
set_option maxRecDepth 100000 in
set_option maxHeartbeats 4000000 in
theorem l2Says_any (B N c2 : Nat) (A2 : Option Addr) (t : List Tr) (k v s : Int) (hN : t.length = N) (hlen : N ≤ 100000) (w : World) (hr : Rd3 w B A2 t) (hB : B ≤ w.heap.size) :
  Calls Try.prog 129 #[.agg #[.int .i64 k, .int .i64 v, .slice A2 N c2, .int .i64 s]] w fun e w' => ∃ A c, e = .returned (.slice A (saids t).length c) ∧ OwnI w' w.heap.size (.slice A (saids t).length c) (saids t) ∧ Below w.heap.size w w' := by
 obtain ⟨i0, hi, hz0, hz1, hz2⟩ := info_parts infoInt
 have hR := hid hr
 have HN := hid hN
 have hsl := hid (fun j (hj : j ≤ N) => (show (saids (t.take j)).length ≤ j from Nat.le_trans (saids_len _) (by rw [List.length_take]; omega)))
 have hnx := hid (fun j e (h : t[j]? = some e) => saids_take h)
 have hfull := hid (show saids (t.take N) = saids t by rw [← hN, List.take_length])
 clear hr hN
 go_enter Try.func129, Try.ntmps129
 go_upto_region 1 with fail
 change (fun V => Code.wp _ _ _ _ V) _
 refine gen_world (X := fun V => V.cell? ⟨w.heap.size, 2, none⟩ = some (.slice A2 N c2) ∧ Below w.heap.size w V ∧ w.heap.size < V.heap.size) ⟨Blk.cells (heap1_0 w (.cells #[.int .i64 k, .int .i64 v, .slice A2 N c2, .int .i64 s] 56)) 2, (Below.refl _ _).alloc (Nat.le_refl _) _, by simp⟩ ?_
 rintro w1 ⟨z2, b1, l1⟩
 have hR1 := hid (hR.out.below (b1.mono hB))
 have B1 := hid b1
 clear b1
 go_wp2_with fail
 go_loopw [3, 4] (fun v i wr => ∃ (j : Nat) (A' : Option Addr) (c' : Nat), j ≤ N ∧ i = .int .i64 j ∧ v = .slice A' (saids (t.take j)).length c' ∧ OwnI wr w1.heap.size (.slice A' (saids (t.take j)).length c') (saids (t.take j)) ∧ Below w1.heap.size w1 wr) (fun _ i _ => N - (intOf i).toNat)
 case atStart => exact ⟨0, _, _, Nat.zero_le _, rfl, rfl, App.empty_own (heap1_0 w1 _) (Nat.le_refl _), (Below.refl _ _).alloc (Nat.le_refl _) _⟩
 case round =>
  obtain ⟨j, A', c', hj, rfl, rfl, hown, hb⟩ := hrel
  have zz : wr.cell? ⟨w.heap.size, 2, none⟩ = some (.slice A2 N c2) := (hb.cell (show (⟨w.heap.size, 2, none⟩ : Addr).block < _ from l1)).trans z2
  by_cases hlt : j < N
  ·obtain ⟨⟨e0, e1, e2⟩, hs⟩ : ∃ s, t[j]? = some s := ⟨_, List.getElem?_eq_getElem (by rw [HN.out]; exact hlt)⟩
   obtain ⟨ad, rfl, hab, h0', h1', h2'⟩ := (hR1.out.below (hb.mono (Nat.le_trans hB B1.out.size))) j _ hs
   have hx := hnx.out j _ hs
   have hl := hsl.out j hj
   have HB := hid hb
   have O := hid hown
   have sz := hb.size
   dsimp only at h0' h1' h2' hx
   clear hs hb hown z2
   by_cases k4 : e0 = 4
   ·rw [if_pos k4] at hx
    have hx' := hid hx
    subst k4
    clear hx
    generalize saids (t.take j) = q at *
    go_wp2_with (at_builtin; refine wpList_append_lies _ rfl _ _ 26 rfl w1.heap.size 3 i0 _ 1 8 Try.underlying26 hi hz0 hz1 hz2 rfl (by decide) _ _ _ rfl (World.ownsRow.alloc O.out _) ⟨wr.heap.size, 0, none⟩ 1 1 [.int .i64 e2] rfl rfl ?cn ?co (by decide) ?c63 ?cb ?cl (wr.heap.size + 1) ?cH ?next)
    case cn => exact World.news_of_block (cs := #[.int .i64 e2]) (t := 3) (fr := (0, 0)) (heap_alloc_new _ _)
    case co => intro u hu; simp at hu; rcases hu with rfl; rfl
    case c63 => unfold maxLen; omega
    case cb => omega
    case cl => simp; omega
    case cH => simp
    case next =>
     intro g cap w' hown' hgrow hat hlt'
     have O' := hid hown'
     have bb := hid (out_below HB.out O.out ((Below.refl _ _).alloc (Nat.le_refl _) _) hgrow (Nat.le_refl _))
     clear hown' hgrow hat
     go_wp2_with fail
     go_roundw
     case rel =>
      refine ⟨j + 1, some ⟨g, 0, none⟩, cap, by omega, by go_num, ?_, ?_, bb.out⟩
      ·rw [hx'.out, List.length_append, List.length_singleton]
      ·rw [hx'.out]
       unfold OwnI
       rw [List.length_append, List.length_singleton, cellsI_append]
       exact O'.out
     case measure => simp [intOf]; omega
   ·rw [if_neg k4] at hx
    have hx' := hid hx
    have c4 : (e0 == 4) = false := by simpa using k4
    clear hx k4
    go_wp2_with fail
    go_roundw
    case rel => exact ⟨j + 1, A', c', by omega, by go_num, by rw [hx'.out], by rw [hx'.out]; exact O.out, HB.out⟩
    case measure => simp [intOf]; omega
  ·obtain rfl : j = N := by omega
   have HB := hid hb
   rw [hfull.out] at hown ⊢
   have O := hid hown
   clear hb hown
   go_wp2_with fail
   go_ret
   exact ⟨A', c', rfl, own_mono O.out (Nat.le_of_lt l1), B1.out.trans (HB.out.mono B1.out.size)⟩
set_option maxRecDepth 100000 in
set_option maxHeartbeats 4000000 in
theorem saidIn_any (B N c2 : Nat) (A2 : Option Addr) (t : List Tr) (hN' : t.length = N) (hlen : N ≤ 100000) (w3 : World) (hr : Rd3 w3 B A2 t) (hB : B ≤ w3.heap.size) :
  Calls Try.prog 145 #[.slice A2 N c2] w3 fun e w' => ∃ A' c', e = .returned (.slice A' (saids t).length c') ∧ OwnI w' w3.heap.size (.slice A' (saids t).length c') (saids t) ∧ Below w3.heap.size w3 w' := by
 obtain ⟨i0, hi, hz0, hz1, hz2⟩ := info_parts infoInt
 have hsl := hid (fun j (hj : j ≤ N) => (show (saids (t.take j)).length ≤ j from Nat.le_trans (saids_len _) (by rw [List.length_take]; omega)))
 have hnx := hid (fun j e (h : t[j]? = some e) => saids_take h)
 have hfull := hid (show saids (t.take N) = saids t by rw [← hN', List.take_length])
 have HN := hid hN'
 have hR := hid (fun (W : World) (b : Below w3.heap.size w3 W) => (show Rd3 W B A2 t from hr.below (b.mono hB)))
 clear hr hN'
 go_enter Try.func145, Try.ntmps145
 go_wp2_with fail
 go_loopw [3, 9] (fun v i wr => ∃ (j : Nat) (A' : Option Addr) (c' : Nat), j ≤ N ∧ i = .int .i64 j ∧ v = .slice A' (saids (t.take j)).length c' ∧ OwnI wr w3.heap.size (.slice A' (saids (t.take j)).length c') (saids (t.take j)) ∧ Below w3.heap.size w3 wr) (fun _ i _ => N - (intOf i).toNat)
 case atStart => exact ⟨0, _, _, Nat.zero_le _, rfl, rfl, App.empty_own (heap1_0 w3 _) (Nat.le_refl _), (Below.refl _ _).alloc (Nat.le_refl _) _⟩
 case round =>
  obtain ⟨j, A', c', hj, rfl, rfl, hown, hb⟩ := hrel
  by_cases hlt : j < N
  ·obtain ⟨⟨e0, e1, e2⟩, hs⟩ : ∃ s, t[j]? = some s := ⟨_, List.getElem?_eq_getElem (by rw [HN.out]; exact hlt)⟩
   obtain ⟨ad, rfl, hab, h0', h1', h2'⟩ := (hR.out _ hb) j _ hs
   have hx := hnx.out j _ hs
   have hl' := hsl.out j hj
   have HB := hid hb
   have O := hid hown
   have sz := hb.size
   dsimp only at h0' h1' h2' hx
   clear hs hb hown
   by_cases k4 : e0 = 4
   ·rw [if_pos k4] at hx
    have hx' := hid hx
    subst k4
    clear hx
    generalize saids (t.take j) = q at *
    go_wp2_with (at_builtin; refine wpList_append_lies _ rfl _ _ 26 rfl w3.heap.size 3 i0 _ 1 8 Try.underlying26 hi hz0 hz1 hz2 rfl (by decide) _ _ _ rfl (World.ownsRow.alloc (World.ownsRow.alloc O.out _) _) ⟨wr.heap.size + 1, 0, none⟩ 1 1 [.int .i64 e2] rfl rfl ?cn ?co (by decide) ?c63 ?cb ?cl (wr.heap.size + 2) ?cH ?next)
    case cn => exact World.news_of_block (cs := #[.int .i64 e2]) (t := 3) (fr := (0, 0)) (by rw [show wr.heap.size + 1 = (wr.alloc _).heap.size by simp]; exact heap_alloc_new _ _)
    case co => intro u hu; simp at hu; rcases hu with rfl; rfl
    case c63 => unfold maxLen; omega
    case cb => omega
    case cl => simp; omega
    case cH => simp
    case next =>
     intro g cap w' hown' hgrow hat hlt'
     have O' := hid hown'
     have bb := hid (out_below HB.out O.out (((Below.refl _ _).alloc (Nat.le_refl _) _).alloc (by simp) _) hgrow (Nat.le_refl _))
     clear hown' hgrow hat
     go_wp2_with fail
     go_roundw
     case rel =>
      refine ⟨j + 1, some ⟨g, 0, none⟩, cap, by omega, by go_num, ?_, ?_, bb.out⟩
      ·rw [hx'.out, List.length_append, List.length_singleton]
      ·rw [hx'.out]
       unfold OwnI
       rw [List.length_append, List.length_singleton, cellsI_append]
       exact O'.out
     case measure => simp [intOf]; omega
   ·rw [if_neg k4] at hx
    have hx' := hid hx
    have c4 : (e0 == 4) = false := by simpa using k4
    clear hx k4
    go_wp2_with fail
    go_roundw
    case rel => exact ⟨j + 1, A', c', by omega, by go_num, by rw [hx'.out], by rw [hx'.out]; exact World.ownsRow.alloc O.out _, HB.out.alloc sz _⟩
    case measure => simp [intOf]; omega
  ·obtain rfl : j = N := by omega
   have HB := hid hb
   rw [hfull.out] at hown ⊢
   have O := hid hown
   clear hb hown
   go_wp2_with fail
   go_ret
   exact ⟨A', c', rfl, O.out, HB.out⟩
end Go.Proofs.Ythejnpignlhgiaa.SaysP
-- squeezed
