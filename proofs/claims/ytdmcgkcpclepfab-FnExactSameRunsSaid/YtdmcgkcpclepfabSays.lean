import Derived.Test.YtdmcgkcpclepfabIrp
import Derived.Test.YtdmcgkcpclepfabM12
import Derived.Test.YtdmcgkcpclepfabM2
import Derived.Deep.AppendLies
import Derived.Test.YtdmcgkcpclepfabM3
set_option linter.all false
namespace Go.Proofs.Ytdmcgkcpclepfab.SaysP
open Lib (hid)
open Go.ChangeShapes Go.WideShapes Go.ChangeAt Go.RowKit
open PL Mem Srun Sst Ssim Smk To OwnS AskP Res Swhole Sout Irp RunF IntsP LawI
theorem infoInt : (Try.prog.info? 3).map (fun i => (i.zero, i.size, i.bytes)) = some (some (.int .i64 0), 1, 8) := by kernel_rfl
def saids (t : List Tr) : List Int := (t.filter (fun e => e.1 == 4)).map (fun e => e.2.2)
theorem saids_take {t : List Tr} {j : Nat} {e : Tr} (h : t[j]? = some e) : saids (t.take (j + 1)) = if e.1 = 4 then saids (t.take j) ++ [e.2.2] else saids (t.take j) := by
 rw [List.take_add_one, h]
 unfold saids
 rw [Option.toList_some, List.filter_append, List.map_append]
 split
 ·rename_i h4
  simp [h4]
 ·rename_i h4
  simp [h4]
theorem saids_len (t : List Tr) : (saids t).length ≤ t.length := by
 unfold saids
 rw [List.length_map]
 exact List.length_filter_le _ _
def saidR (p : Pg) (f arg fuel : Int) : List Int × Bool := (saids (runR p f arg fuel).1.trace, (runR p f arg fuel).2)
theorem saidR_len (p : Pg) (f arg fuel : Int) : (saidR p f arg fuel).1.length ≤ 100000 := Nat.le_trans (saids_len _) (runR_len p f arg fuel)
theorem out_below {B : Nat} {w1 wr wa w' : World} {v : Value} {xs : List Int} (hb : Below B w1 wr) (ho : OwnI wr B v xs) (ha : Below wr.heap.size wr wa) (hg : wa.grownBy w' v.ownBlock) (hB : B ≤ w1.heap.size) : Below B w1 w' := by
 have hs := hb.size
 have c1 : Chg (fun y => v.ownBlock = some y) wr w' := (Chg.of_below ha).trans (Chg.of_grown hg) (fun x _ hx => hx.symm)
 exact hb.trans (c1.below (by omega) (fun x hx hc => by have := (World.ownsRow.lt ho x hc).1; omega))
set_option maxRecDepth 100000 in
set_option maxHeartbeats 4000000 in
theorem l2Says_any (B N c2 : Nat) (A2 : Option Addr) (t : List Tr) (k v s : Int) (hN : t.length = N) (hlen : N ≤ 100000) (w : World) (hr : Rd3 w B A2 t) (hB : B ≤ w.heap.size) :
  Calls Try.prog 42 #[.agg #[.int .i64 k, .int .i64 v, .slice A2 N c2, .int .i64 s]] w fun e w' => ∃ A c, e = .returned (.slice A (saids t).length c) ∧ OwnI w' w.heap.size (.slice A (saids t).length c) (saids t) ∧ Below w.heap.size w w' := by
 obtain ⟨i0, hi, hz0, hz1, hz2⟩ := info_parts infoInt
 have hR := hid hr
 have HN := hid hN
 have hsl := hid (fun j (hj : j ≤ N) => (show (saids (t.take j)).length ≤ j from Nat.le_trans (saids_len _) (by rw [List.length_take]; omega)))
 have hnx := hid (fun j e (h : t[j]? = some e) => saids_take h)
 have hfull := hid (show saids (t.take N) = saids t by rw [← hN, List.take_length])
 clear hr hN
 go_enter Try.func42, Try.ntmps42
 go_upto_region 1 with fail
 change (fun V => Code.wp _ _ _ _ V) _
 refine gen_world (X := fun V => V.cell? ⟨w.heap.size, 2, none⟩ = some (.slice A2 N c2) ∧ Below w.heap.size w V ∧ w.heap.size < V.heap.size) ⟨Blk.cells (heap1_0 w (.cells #[.int .i64 k, .int .i64 v, .slice A2 N c2, .int .i64 s] 77)) 2, (Below.refl _ _).alloc (Nat.le_refl _) _, by simp⟩ ?_
 rintro w1 ⟨z2, b1, l1⟩
 have hR1 := hid (hR.out.below (b1.mono hB))
 have B1 := hid b1
 clear b1
 go_wp2_with fail
 go_loopw [3, 4] (fun v i wr => ∃ (j : Nat) (A' : Option Addr) (c' : Nat), j ≤ N ∧ i = .int .i64 j ∧ v = .slice A' (saids (t.take j)).length c' ∧ OwnI wr w1.heap.size (.slice A' (saids (t.take j)).length c') (saids (t.take j)) ∧ Below w1.heap.size w1 wr) (fun _ i _ => N - (intOf i).toNat)
 case atStart => exact ⟨0, _, _, Nat.zero_le _, rfl, rfl, App.empty_own (heap1_0 w1 _) (Nat.le_refl _), (Below.refl _ _).alloc (Nat.le_refl _) _⟩
 case round =>
  obtain ⟨j, A', c', hj, rfl, rfl, hown, hb⟩ := hrel
  have zz : wr.cell? ⟨w.heap.size, 2, none⟩ = some (.slice A2 N c2) := (hb.cell (show (⟨w.heap.size, 2, none⟩ : Addr).block < _ from l1)).trans z2
  by_cases hlt : j < N
  ·obtain ⟨⟨e0, e1, e2⟩, hs⟩ : ∃ s, t[j]? = some s := ⟨_, List.getElem?_eq_getElem (by rw [HN.out]; exact hlt)⟩
   obtain ⟨ad, rfl, hab, h0', h1', h2'⟩ := (hR1.out.below (hb.mono (Nat.le_trans hB B1.out.size))) j _ hs
   have hx := hnx.out j _ hs
   have hl := hsl.out j hj
   have HB := hid hb
   have O := hid hown
   have sz := hb.size
   dsimp only at h0' h1' h2' hx
   clear hs hb hown z2
   by_cases k4 : e0 = 4
   ·rw [if_pos k4] at hx
    have hx' := hid hx
    subst k4
    clear hx
    generalize saids (t.take j) = q at *
    go_wp2_with (at_builtin; refine wpList_append_lies _ rfl _ _ 38 rfl w1.heap.size 3 i0 _ 1 8 Try.underlying38 hi hz0 hz1 hz2 rfl (by decide) _ _ _ rfl (World.ownsRow.alloc O.out _) ⟨wr.heap.size, 0, none⟩ 1 1 [.int .i64 e2] rfl rfl ?cn ?co (by decide) ?c63 ?cb ?cl (wr.heap.size + 1) ?cH ?next)
    case cn => exact World.news_of_block (cs := #[.int .i64 e2]) (t := 3) (fr := (0, 0)) (heap_alloc_new _ _)
    case co => intro u hu; simp at hu; rcases hu with rfl; rfl
    case c63 => unfold maxLen; omega
    case cb => omega
    case cl => simp; omega
    case cH => simp
    case next =>
     intro g cap w' hown' hgrow hat hlt'
     have O' := hid hown'
     have bb := hid (out_below HB.out O.out ((Below.refl _ _).alloc (Nat.le_refl _) _) hgrow (Nat.le_refl _))
     clear hown' hgrow hat
     go_wp2_with fail
     go_roundw
     case rel =>
      refine ⟨j + 1, some ⟨g, 0, none⟩, cap, by omega, by go_num, ?_, ?_, bb.out⟩
      ·rw [hx'.out, List.length_append, List.length_singleton]
      ·rw [hx'.out]
       unfold OwnI
       rw [List.length_append, List.length_singleton, cellsI_append]
       exact O'.out
     case measure => simp [intOf]; omega
   ·rw [if_neg k4] at hx
    have hx' := hid hx
    have c4 : (e0 == 4) = false := by simpa using k4
    clear hx k4
    go_wp2_with fail
    go_roundw
    case rel => exact ⟨j + 1, A', c', by omega, by go_num, by rw [hx'.out], by rw [hx'.out]; exact O.out, HB.out⟩
    case measure => simp [intOf]; omega
  ·obtain rfl : j = N := by omega
   have HB := hid hb
   rw [hfull.out] at hown ⊢
   have O := hid hown
   clear hb hown
   go_wp2_with fail
   go_ret
   exact ⟨A', c', rfl, own_mono O.out (Nat.le_of_lt l1), B1.out.trans (HB.out.mono B1.out.size)⟩
set_option maxRecDepth 100000 in
set_option maxHeartbeats 4000000 in
theorem saidS_any (lo n c : Nat) (A : Option Addr) (p : Pg) (f arg fuel : Int) (hn : n ≤ 9223372036854775807) (hl : p.length = n) (hsm : Small p 9223372036854775807) (w : World) (ho : OwnP w lo (.slice A n c) p) :
  Calls Try.prog 27 #[.agg #[.slice A n c], .int .i64 f, .int .i64 arg, .int .i64 fuel] w (IntsR (saidR p f arg fuel) w) := by
 have hq := hid (fun W (h : Below w.heap.size w W) => l2Ask_any w.heap.size A n c p f arg fuel hn hl hsm W (ho.rd.below h) h.size)
 have hal : ∀ o1 : Obj, Below w.heap.size w (w.alloc o1) := fun o1 => (Below.refl _ _).alloc (Nat.le_refl _) _
 have HAL := hid hal
 have hlen := runR_len p f arg fuel
 cases ha : asks p f arg fuel with
 | false =>
  have hr := hid (show saidR p f arg fuel = ([], false) by unfold saidR runR; rw [ha]; rfl)
  rw [ha] at hq
  clear ha ho hsm hal hlen
  go_enter Try.func27, Try.ntmps27
  go_wp2_with fail
  refine (hq.out _ (HAL.out _)).mono ?_
  rintro e w1 ⟨rfl, b1⟩
  go_wp2_with fail
  go_ret2
  have B := (HAL.out (.cells #[.slice A n c] 30)).trans (b1.mono (HAL.out _).size)
  exact ⟨_, _, by rw [hr.out] <;> rfl, by rw [hr.out]; exact App.empty_own (heap1_0 w1 _) B.size, B.alloc B.size _⟩
 | true =>
  obtain ⟨h1, h2, h3, h4, h5, h6⟩ := start_wf (n := n) ha
  have hn6 : p.length ≤ 6 ∧ Small p 8 := okProg_small h1
  have hru := hid (fun W (h : Below w.heap.size w W) => l2Run_any lo n c A p f arg fuel hl (hn6.2.mono (by omega)) (by omega) ha W (ho.below h))
  have hrr : runR p f arg fuel = (run p fuel f arg, true) := by unfold runR; rw [ha]; rfl
  have hr : saidR p f arg fuel = (saids (run p fuel f arg).trace, true) := by unfold saidR; rw [hrr]
  rw [hrr] at hlen
  rw [ha] at hq
  clear ha ho hsm hal h1 h2 h3 h4 h5 h6 hn6 hrr
  generalize run p fuel f arg = r at *
  obtain ⟨k, v, t, s⟩ := r
  dsimp only at hr hlen
  have HR := hid hr
  clear hr
  go_enter Try.func27, Try.ntmps27
  go_wp2_with fail
  refine (hq.out _ (HAL.out _)).mono ?_
  rintro e w1 ⟨rfl, b1⟩
  have a1' : w1.cell? ⟨w.heap.size, 0, none⟩ = some (.slice A n c) := (Blk.below (heap1_0 w (.cells #[.slice A n c] 30)) b1 (by simp)).cells 0
  have bb := hid ((HAL.out (.cells #[.slice A n c] 30)).trans (b1.mono (HAL.out _).size))
  clear b1 hq
  go_wp2_with fail
  refine (hru.out _ bb.out).mono ?_
  rintro e w2 ⟨A2, c2, rfl, ht, b2⟩
  unfold outval
  have B2 := hid (bb.out.trans (b2.mono bb.out.size))
  have hR := hid (rd_own ht)
  dsimp only at hR ⊢
  clear a1' hru b2 bb ht
  go_wp2_with fail
  refine (l2Says_any w2.heap.size t.length c2 A2 t k v s rfl hlen w2 hR.out (Nat.le_refl _)).mono ?_
  rintro e w3 ⟨A3, c3, rfl, o3, b3⟩
  have O3 := hid o3
  have B3 := hid b3
  clear o3 b3
  go_wp2_with fail
  go_ret2
  exact ⟨A3, c3, by rw [HR.out] <;> rfl, by rw [HR.out]; exact own_mono O3.out B2.out.size, B2.out.trans (B3.out.mono B2.out.size)⟩
set_option maxRecDepth 100000 in
set_option maxHeartbeats 4000000 in
theorem saidIn_any (B N c2 : Nat) (A2 : Option Addr) (t : List Tr) (hN' : t.length = N) (hlen : N ≤ 100000) (w3 : World) (hr : Rd3 w3 B A2 t) (hB : B ≤ w3.heap.size) :
  Calls Try.prog 45 #[.slice A2 N c2] w3 fun e w' => ∃ A' c', e = .returned (.slice A' (saids t).length c') ∧ OwnI w' w3.heap.size (.slice A' (saids t).length c') (saids t) ∧ Below w3.heap.size w3 w' := by
 obtain ⟨i0, hi, hz0, hz1, hz2⟩ := info_parts infoInt
 have hsl := hid (fun j (hj : j ≤ N) => (show (saids (t.take j)).length ≤ j from Nat.le_trans (saids_len _) (by rw [List.length_take]; omega)))
 have hnx := hid (fun j e (h : t[j]? = some e) => saids_take h)
 have hfull := hid (show saids (t.take N) = saids t by rw [← hN', List.take_length])
 have HN := hid hN'
 have hR := hid (fun (W : World) (b : Below w3.heap.size w3 W) => (show Rd3 W B A2 t from hr.below (b.mono hB)))
 clear hr hN'
 go_enter Try.func45, Try.ntmps45
 go_wp2_with fail
 go_loopw [3, 9] (fun v i wr => ∃ (j : Nat) (A' : Option Addr) (c' : Nat), j ≤ N ∧ i = .int .i64 j ∧ v = .slice A' (saids (t.take j)).length c' ∧ OwnI wr w3.heap.size (.slice A' (saids (t.take j)).length c') (saids (t.take j)) ∧ Below w3.heap.size w3 wr) (fun _ i _ => N - (intOf i).toNat)
 case atStart => exact ⟨0, _, _, Nat.zero_le _, rfl, rfl, App.empty_own (heap1_0 w3 _) (Nat.le_refl _), (Below.refl _ _).alloc (Nat.le_refl _) _⟩
 case round =>
  obtain ⟨j, A', c', hj, rfl, rfl, hown, hb⟩ := hrel
  by_cases hlt : j < N
  ·obtain ⟨⟨e0, e1, e2⟩, hs⟩ : ∃ s, t[j]? = some s := ⟨_, List.getElem?_eq_getElem (by rw [HN.out]; exact hlt)⟩
   obtain ⟨ad, rfl, hab, h0', h1', h2'⟩ := (hR.out _ hb) j _ hs
   have hx := hnx.out j _ hs
   have hl' := hsl.out j hj
   have HB := hid hb
   have O := hid hown
   have sz := hb.size
   dsimp only at h0' h1' h2' hx
   clear hs hb hown
   by_cases k4 : e0 = 4
   ·rw [if_pos k4] at hx
    have hx' := hid hx
    subst k4
    clear hx
    generalize saids (t.take j) = q at *
    go_wp2_with (at_builtin; refine wpList_append_lies _ rfl _ _ 38 rfl w3.heap.size 3 i0 _ 1 8 Try.underlying38 hi hz0 hz1 hz2 rfl (by decide) _ _ _ rfl (World.ownsRow.alloc (World.ownsRow.alloc O.out _) _) ⟨wr.heap.size + 1, 0, none⟩ 1 1 [.int .i64 e2] rfl rfl ?cn ?co (by decide) ?c63 ?cb ?cl (wr.heap.size + 2) ?cH ?next)
    case cn => exact World.news_of_block (cs := #[.int .i64 e2]) (t := 3) (fr := (0, 0)) (by rw [show wr.heap.size + 1 = (wr.alloc _).heap.size by simp]; exact heap_alloc_new _ _)
    case co => intro u hu; simp at hu; rcases hu with rfl; rfl
    case c63 => unfold maxLen; omega
    case cb => omega
    case cl => simp; omega
    case cH => simp
    case next =>
     intro g cap w' hown' hgrow hat hlt'
     have O' := hid hown'
     have bb := hid (out_below HB.out O.out (((Below.refl _ _).alloc (Nat.le_refl _) _).alloc (by simp) _) hgrow (Nat.le_refl _))
     clear hown' hgrow hat
     go_wp2_with fail
     go_roundw
     case rel =>
      refine ⟨j + 1, some ⟨g, 0, none⟩, cap, by omega, by go_num, ?_, ?_, bb.out⟩
      ·rw [hx'.out, List.length_append, List.length_singleton]
      ·rw [hx'.out]
       unfold OwnI
       rw [List.length_append, List.length_singleton, cellsI_append]
       exact O'.out
     case measure => simp [intOf]; omega
   ·rw [if_neg k4] at hx
    have hx' := hid hx
    have c4 : (e0 == 4) = false := by simpa using k4
    clear hx k4
    go_wp2_with fail
    go_roundw
    case rel => exact ⟨j + 1, A', c', by omega, by go_num, by rw [hx'.out], by rw [hx'.out]; exact World.ownsRow.alloc O.out _, HB.out.alloc sz _⟩
    case measure => simp [intOf]; omega
  ·obtain rfl : j = N := by omega
   have HB := hid hb
   rw [hfull.out] at hown ⊢
   have O := hid hown
   clear hb hown
   go_wp2_with fail
   go_ret
   exact ⟨A', c', rfl, O.out, HB.out⟩
set_option maxRecDepth 100000 in
set_option maxHeartbeats 4000000 in
theorem saidI_any (lo n c : Nat) (A : Option Addr) (p : Pg) (f arg fuel : Int) (hn : n ≤ 9223372036854775807) (hl : p.length = n) (hsm : Small p 9223372036854775807) (w : World) (ho : OwnP w lo (.slice A n c) p) :
  Calls Try.prog 28 #[.agg #[.slice A n c], .int .i64 f, .int .i64 arg, .int .i64 fuel] w (IntsR (saidR p f arg fuel) w) := by
 have hq := hid (fun W (h : Below w.heap.size w W) => runI_any lo n c A p f arg fuel hn hl hsm W (ho.below h))
 have hal : ∀ o1 : Obj, Below w.heap.size w (w.alloc o1) := fun o1 => (Below.refl _ _).alloc (Nat.le_refl _) _
 have HAL := hid hal
 have hlen := runR_len p f arg fuel
 have hr := hid (show saidR p f arg fuel = (saids (runR p f arg fuel).1.trace, (runR p f arg fuel).2) from rfl)
 generalize runR p f arg fuel = r at *
 obtain ⟨⟨k, v, t, s⟩, b⟩ := r
 dsimp only at hr hlen
 obtain ⟨N, hN⟩ : ∃ N, t.length = N := ⟨_, rfl⟩
 unfold OutR at hq
 dsimp only at hq
 rw [hN] at hq hlen
 have HN := hid hN
 clear ho hsm hal hN
 go_enter Try.func28, Try.ntmps28
 go_wp2_with fail
 refine (hq.out _ (HAL.out _)).mono ?_
 rintro e w2 ⟨A2, c2, rfl, ht, b2⟩
 have hR := hid (show Rd3 w2 w2.heap.size A2 t by unfold Tre at ht; rw [HN.out] at ht; exact rd_own ht)
 have BB := hid ((HAL.out (.cells #[.slice A n c] 30)).trans (b2.mono (HAL.out _).size))
 unfold outval
 dsimp only
 clear ht b2 hq
 go_upto_region 2 with fail
 change (fun V => Code.wp _ _ _ _ V) _
 refine gen_world (X := fun V => Blk V w2.heap.size 77 #[.int .i64 k, .int .i64 v, .slice A2 N c2, .int .i64 s] ∧ Below w2.heap.size w2 V) ⟨heap1_0 w2 _, (Below.refl _ _).alloc (Nat.le_refl _) _⟩ ?_
 rintro w3 ⟨h3, b3⟩
 have z2 : w3.cell? ⟨w2.heap.size, 2, none⟩ = some (.slice A2 N c2) := h3.cells 2
 have B3 := hid b3
 have HC := hid (saidIn_any w2.heap.size N c2 A2 t HN.out hlen w3 (hR.out.below b3) b3.size)
 clear b3 h3
 go_wp2_with fail
 refine HC.out.mono ?_
 rintro e w4 ⟨A', c', rfl, o4, b4⟩
 have O4 := hid o4
 have B4 := hid b4
 clear o4 b4 HC
 go_wp2_with fail
 go_ret2
 exact ⟨A', c', by rw [hr.out] <;> rfl, by rw [hr.out]; exact own_mono O4.out (Nat.le_trans BB.out.size B3.out.size), BB.out.trans ((B3.out.trans (B4.out.mono B3.out.size)).mono BB.out.size)⟩
end Go.Proofs.Ytdmcgkcpclepfab.SaysP
-- squeezed
