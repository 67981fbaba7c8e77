import Derived.Test.YthejnpignlhgiaaFrp
import Derived.Test.YthejnpignlhgiaaSays
import Derived.Test.YthejnpignlhgiaaKfg
import Derived.Test.YthejnpignlhgiaaGrw
set_option linter.all false
namespace Go.Proofs.Ythejnpignlhgiaa.Exo
open Lib (hid)
open Go.ChangeShapes Go.WideShapes Go.ChangeAt Go.RowKit
open PL Mem Srun Sst Ssim Smk To OwnS AskP StpS Res Swhole Sout Irp RunF IntsP LawI PArgP Rng Kfg Frp GrwP
theorem info3 : (Try.prog.info? 3).map (fun i => (i.zero, i.size, i.bytes)) = some (some (.int .i64 0), 1, 8) := by kernel_rfl
theorem out_field2 (a b c d : Value) (w : World) : (Instr.field 56 (.agg #[a, b, c, d]) 2).run Try.prog w = .ok c w := by kernel_rfl
set_option maxRecDepth 100000 in
set_option maxHeartbeats 4000000 in
theorem pathS_any (lo n c : Nat) (A : Option Addr) (p : Pg) (f arg fuel : Int) (hn : n ≤ 9223372036854775807) (hl : p.length = n) (hsm : Small p 9223372036854775807) (w : World) (ho : OwnP w lo (.slice A n c) p) :
  Calls Try.prog 25 #[.agg #[.slice A n c], .int .i64 f, .int .i64 arg, .int .i64 fuel] w (IntsR (pathR p f arg fuel) w) := by
 obtain ⟨i0, hi, hz0, hz1, hz2⟩ := info_parts info3
 have hq := hid (fun W (h : Below w.heap.size w W) => l2Ask_any w.heap.size A n c p f arg fuel hn hl hsm W (ho.rd.below h) h.size)
 have hlen := runR_len p f arg fuel
 cases ha : asks p f arg fuel with
 | false =>
  have hr := hid (show pathR p f arg fuel = ([], false) by unfold pathR runR; rw [ha]; rfl)
  rw [ha] at hq
  clear ha ho hsm hlen
  go_enter Try.func25, Try.ntmps25
  go_upto_region 1 with fail
  change (fun V => Code.wp _ _ _ _ V) _
  refine gen_world (X := fun V => Blk V w.heap.size 35 #[.slice A n c] ∧ Below w.heap.size w V ∧ w.heap.size < V.heap.size) ⟨heap1_0 w _, (Below.refl _ _).alloc (Nat.le_refl _) _, by simp⟩ ?_
  rintro w1 ⟨x1, b1, l1⟩
  have z1 : w1.cell? ⟨w.heap.size, 0, none⟩ = some (.slice A n c) := x1.cells 0
  have B2 := hid (b1.alloc b1.size (.cells #[] 3))
  have HE := hid (show OwnI (w1.alloc (.cells #[] 3)) w.heap.size (.slice (some ⟨w1.heap.size, 0, none⟩) 0 0) [] from App.empty_own (heap1_0 w1 _) b1.size)
  clear x1 b1
  go_wp2_with fail
  refine (hq.out _ B2.out).mono ?_
  rintro e w2 ⟨rfl, b2⟩
  have O := hid (own_below HE.out b2 (Nat.le_refl _))
  have B := hid (B2.out.trans (b2.mono B2.out.size))
  clear b2
  go_wp2_with fail
  go_ret2
  exact ⟨_, _, by rw [hr.out] <;> rfl, by rw [hr.out]; exact O.out, B.out⟩
 | true =>
  obtain ⟨h1, h2, h3, h4, h5, h6⟩ := start_wf (n := n) ha
  have hn6 : p.length ≤ 6 ∧ Small p 8 := okProg_small h1
  have hru := hid (fun W (h : Below w.heap.size w W) => l2Run_any lo n c A p f arg fuel hl (hn6.2.mono (by omega)) (by omega) ha W (ho.below h))
  have hrr : runR p f arg fuel = (run p fuel f arg, true) := by unfold runR; rw [ha]; rfl
  have hr : pathR p f arg fuel = (exits (run p fuel f arg).trace, true) := by unfold pathR; rw [hrr]
  rw [hrr] at hlen
  rw [ha] at hq
  clear ha ho hsm h1 h2 h3 h4 h5 h6 hn6 hrr
  generalize run p fuel f arg = r at *
  obtain ⟨k, v, t, s⟩ := r
  dsimp only at hr hlen
  have HR := hid hr
  obtain ⟨N, hN⟩ : ∃ N, t.length = N := ⟨_, rfl⟩
  rw [hN] at hlen
  have HN := hid hN
  have hsl := hid (fun j (hj : j ≤ N) => (show (exits (t.take j)).length ≤ j from Nat.le_trans (exits_len _) (by rw [List.length_take]; omega)))
  have hnx := hid (fun j e (h : t[j]? = some e) => exits_take h)
  have hfull := hid (show exits (t.take N) = exits t by rw [← hN, List.take_length])
  clear hr hN
  go_enter Try.func25, Try.ntmps25
  go_upto_region 1 with fail
  change (fun V => Code.wp _ _ _ _ V) _
  refine gen_world (X := fun V => Blk V w.heap.size 35 #[.slice A n c] ∧ Below w.heap.size w V ∧ w.heap.size < V.heap.size) ⟨heap1_0 w _, (Below.refl _ _).alloc (Nat.le_refl _) _, by simp⟩ ?_
  rintro w1 ⟨x1, b1, l1⟩
  have z1 : w1.cell? ⟨w.heap.size, 0, none⟩ = some (.slice A n c) := x1.cells 0
  have X1 := hid x1
  have B1 := hid b1
  have B2 := hid (show Below w1.heap.size w1 (w1.alloc (.cells #[] 3)) from (Below.refl _ _).alloc (Nat.le_refl _) _)
  have HE := hid (show OwnI (w1.alloc (.cells #[] 3)) w1.heap.size (.slice (some ⟨w1.heap.size, 0, none⟩) 0 0) [] from App.empty_own (heap1_0 w1 _) (Nat.le_refl _))
  clear x1 b1
  go_wp2_with fail
  refine (hq.out _ (B1.out.trans (B2.out.mono B1.out.size))).mono ?_
  rintro e w2 ⟨rfl, b2⟩
  have O2 := hid (own_below HE.out b2 (Nat.le_refl _))
  have C2 := hid (B2.out.trans (b2.mono B2.out.size))
  have z2 : w2.cell? ⟨w.heap.size, 0, none⟩ = some (.slice A n c) := (X1.out.below C2.out l1).cells 0
  clear b2 B2 HE z1 hq
  go_wp2_with fail
  refine (hru.out _ (B1.out.trans (C2.out.mono B1.out.size))).mono ?_
  rintro e w3 ⟨A2, c2, rfl, ht, b3⟩
  unfold outval Tre at *
  dsimp only at ht ⊢
  rw [HN.out] at ht ⊢
  have O3 := hid (own_below O2.out b3 (Nat.le_refl _))
  have C3 := hid (C2.out.trans (b3.mono C2.out.size))
  have HT := hid (own_mono (B' := w1.heap.size) ht C2.out.size)
  have hf2 := fun u => out_field2 (.int .i64 k) (.int .i64 v) (.slice A2 N c2) (.int .i64 s) u
  clear z2 hru b3 ht C2 O2 X1
  go_wp2_with fail
  go_loopw [10, 12] (fun v i wr => ∃ (j : Nat) (A' : Option Addr) (c' : Nat), j ≤ N ∧ i = .int .i64 j ∧ v = .slice A' (exits (t.take j)).length c' ∧ OwnI wr w1.heap.size (.slice A' (exits (t.take j)).length c') (exits (t.take j)) ∧ wr.ownsRow w1.heap.size 94 3 (.slice A2 N c2) N (cells3 t) ∧ Below w1.heap.size w1 wr) (fun _ i _ => N - (intOf i).toNat)
  case atStart => exact ⟨0, _, _, Nat.zero_le _, rfl, rfl, O3.out, HT.out, C3.out⟩
  case round =>
   obtain ⟨j, A', c', hj, rfl, rfl, hown, htr, hb⟩ := hrel
   clear O3 HT C3
   have sz := hb.size
   have HB := hid hb
   have O := hid hown
   have T := hid htr
   by_cases hlt : j < N
   ·obtain ⟨⟨e0, e1, e2⟩, hs⟩ : ∃ s, t[j]? = some s := ⟨_, List.getElem?_eq_getElem (by rw [HN.out]; exact hlt)⟩
    obtain ⟨ad, rfl, hab, h0', h1', h2'⟩ := (rd_own htr) j _ hs
    have hx := hnx.out j _ hs
    have hl := hsl.out j hj
    dsimp only at h0' h1' h2' hx
    clear hs hb hown htr
    by_cases k4 : e0 = 9
    ·rw [if_pos k4] at hx
     have hx' := hid hx
     subst k4
     clear hx
     generalize exits (t.take j) = q at *
     go_wp2_with (at_builtin; refine wpList_append_lies _ rfl _ _ 26 rfl w1.heap.size 3 i0 _ 1 8 Try.underlying26 hi hz0 hz1 hz2 rfl (by decide) _ _ _ rfl (World.ownsRow.alloc O.out _) ⟨wr.heap.size, 0, none⟩ 1 1 [.int .i64 e1] rfl rfl ?cn ?co (by decide) ?c63 ?cb ?cl (wr.heap.size + 1) ?cH ?next)
     case cn => exact World.news_of_block (cs := #[.int .i64 e1]) (t := 3) (fr := (0, 0)) (heap_alloc_new _ _)
     case co => intro u hu; simp at hu; rcases hu with rfl; rfl
     case c63 => unfold maxLen; omega
     case cb => omega
     case cl => simp; omega
     case cH => simp
     case next =>
      intro g cap w' hown' hgrow hat hlt'
      have O' := hid hown'
      have bb := hid (SaysP.out_below HB.out O.out ((Below.refl _ _).alloc (Nat.le_refl _) _) hgrow (Nat.le_refl _))
      have cc : Chg (fun y => (Value.slice A' q.length c').ownBlock = some y) wr w' := (Chg.alloc _ wr _).trans (Chg.of_grown hgrow) (fun x _ hx => hx.symm)
      have T' := hid (own_chg T.out cc (fun x hx e => App.own_ne O.out T.out (by decide) e hx))
      clear hown' hgrow hat cc
      go_wp2_with fail
      go_roundw
      case rel =>
       refine ⟨j + 1, some ⟨g, 0, none⟩, cap, by omega, by go_num, ?_, ?_, T'.out, bb.out⟩
       ·rw [hx'.out, List.length_append, List.length_singleton]
       ·rw [hx'.out]
        unfold OwnI
        rw [List.length_append, List.length_singleton, cellsI_append]
        exact O'.out
      case measure => simp [intOf]; omega
    ·rw [if_neg k4] at hx
     have hx' := hid hx
     have c4 : (e0 == 9) = false := by simpa using k4
     clear hx k4
     go_wp2_with fail
     go_roundw
     case rel => exact ⟨j + 1, A', c', by omega, by go_num, by rw [hx'.out], by rw [hx'.out]; exact O.out, T.out, HB.out⟩
     case measure => simp [intOf]; omega
   ·obtain rfl : j = N := by omega
    clear hb hown htr T
    have hfl := hfull.out
    rw [hfl] at O ⊢
    go_wp2_with fail
    go_ret2
    exact ⟨A', c', by rw [HR.out] <;> rfl, by rw [HR.out]; exact own_mono O.out (Nat.le_of_lt l1), B1.out.trans (HB.out.mono B1.out.size)⟩
set_option maxRecDepth 100000 in
set_option maxHeartbeats 4000000 in
theorem pathI_any (lo n c : Nat) (A : Option Addr) (p : Pg) (f arg fuel : Int) (hn : n ≤ 9223372036854775807) (hl : p.length = n) (hsm : Small p 9223372036854775807) (w : World) (ho : OwnP w lo (.slice A n c) p) :
  Calls Try.prog 26 #[.agg #[.slice A n c], .int .i64 f, .int .i64 arg, .int .i64 fuel] w (IntsR (pathR p f arg fuel) w) := by
 have hq := hid (fun W (h : Below w.heap.size w W) => runI_any lo n c A p f arg fuel hn hl hsm W (ho.below h))
 have hal : ∀ o1 : Obj, Below w.heap.size w (w.alloc o1) := fun o1 => (Below.refl _ _).alloc (Nat.le_refl _) _
 have HAL := hid hal
 have hlen := runR_len p f arg fuel
 have hr := hid (show pathR p f arg fuel = (exits (runR p f arg fuel).1.trace, (runR p f arg fuel).2) from rfl)
 generalize runR p f arg fuel = r at *
 obtain ⟨⟨k, v, t, s⟩, b⟩ := r
 dsimp only at hr hlen
 obtain ⟨N, hN⟩ : ∃ N, t.length = N := ⟨_, rfl⟩
 unfold OutR at hq
 dsimp only at hq
 rw [hN] at hq hlen
 have HN := hid hN
 clear ho hsm hal hN
 go_enter Try.func26, Try.ntmps26
 go_wp2_with fail
 refine (hq.out _ (HAL.out _)).mono ?_
 rintro e w2 ⟨A2, c2, rfl, ht, b2⟩
 have hR := hid (show Rd3 w2 w2.heap.size A2 t by unfold Tre at ht; rw [HN.out] at ht; exact rd_own ht)
 have BB := hid ((HAL.out (.cells #[.slice A n c] 35)).trans (b2.mono (HAL.out _).size))
 unfold outval
 dsimp only
 clear ht b2 hq
 go_upto_region 2 with fail
 change (fun V => Code.wp _ _ _ _ V) _
 refine gen_world (X := fun V => Blk V w2.heap.size 56 #[.int .i64 k, .int .i64 v, .slice A2 N c2, .int .i64 s] ∧ Below w2.heap.size w2 V) ⟨heap1_0 w2 _, (Below.refl _ _).alloc (Nat.le_refl _) _⟩ ?_
 rintro w3 ⟨h3, b3⟩
 have z2 : w3.cell? ⟨w2.heap.size, 2, none⟩ = some (.slice A2 N c2) := h3.cells 2
 have B3 := hid b3
 have hR3 := hid (fun (W : World) (b : Below w3.heap.size w3 W) => (show Rd3 W w3.heap.size A2 t from ((hR.out.below b3).more b3.size).below b))
 obtain ⟨i0, hi, hz0, hz1, hz2⟩ := info_parts info3
 have hsl := hid (fun j (hj : j ≤ N) => (show (exits (t.take j)).length ≤ j from Nat.le_trans (exits_len _) (by rw [List.length_take]; omega)))
 have hnx := hid (fun j e (h : t[j]? = some e) => exits_take h)
 have hfull := hid (show exits (t.take N) = exits t by rw [← HN.out, List.take_length])
 have lz := h3.lt
 clear hR b3 h3
 go_wp2_with fail
 go_loopw [12, 27] (fun v i wr => ∃ (j : Nat) (A' : Option Addr) (c' : Nat), j ≤ N ∧ i = .int .i64 j ∧ v = .slice A' (exits (t.take j)).length c' ∧ OwnI wr w3.heap.size (.slice A' (exits (t.take j)).length c') (exits (t.take j)) ∧ Below w3.heap.size w3 wr) (fun _ i _ => N - (intOf i).toNat)
 case atStart => exact ⟨0, _, _, Nat.zero_le _, rfl, rfl, App.empty_own (heap1_0 w3 _) (Nat.le_refl _), (Below.refl _ _).alloc (Nat.le_refl _) _⟩
 case round =>
  obtain ⟨j, A', c', hj, rfl, rfl, hown, hb⟩ := hrel
  by_cases hlt : j < N
  ·obtain ⟨⟨e0, e1, e2⟩, hs⟩ : ∃ s, t[j]? = some s := ⟨_, List.getElem?_eq_getElem (by rw [HN.out]; exact hlt)⟩
   obtain ⟨ad, rfl, hab, h0', h1', h2'⟩ := (hR3.out _ hb) j _ hs
   have hx := hnx.out j _ hs
   have hl' := hsl.out j hj
   have HB := hid hb
   have O := hid hown
   have sz := hb.size
   dsimp only at h0' h1' h2' hx
   clear hs hb hown
   by_cases k4 : e0 = 9
   ·rw [if_pos k4] at hx
    have hx' := hid hx
    subst k4
    clear hx
    generalize exits (t.take j) = q at *
    go_wp2_with (at_builtin; refine wpList_append_lies _ rfl _ _ 26 rfl w3.heap.size 3 i0 _ 1 8 Try.underlying26 hi hz0 hz1 hz2 rfl (by decide) _ _ _ rfl (World.ownsRow.alloc (World.ownsRow.alloc O.out _) _) ⟨wr.heap.size + 1, 0, none⟩ 1 1 [.int .i64 e1] rfl rfl ?cn ?co (by decide) ?c63 ?cb ?cl (wr.heap.size + 2) ?cH ?next)
    case cn => exact World.news_of_block (cs := #[.int .i64 e1]) (t := 3) (fr := (0, 0)) (by rw [show wr.heap.size + 1 = (wr.alloc _).heap.size by simp]; exact heap_alloc_new _ _)
    case co => intro u hu; simp at hu; rcases hu with rfl; rfl
    case c63 => unfold maxLen; omega
    case cb => omega
    case cl => simp; omega
    case cH => simp
    case next =>
     intro g cap w' hown' hgrow hat hlt'
     have O' := hid hown'
     have bb := hid (SaysP.out_below HB.out O.out (((Below.refl _ _).alloc (Nat.le_refl _) _).alloc (by simp) _) hgrow (Nat.le_refl _))
     clear hown' hgrow hat
     go_wp2_with fail
     go_roundw
     case rel =>
      refine ⟨j + 1, some ⟨g, 0, none⟩, cap, by omega, by go_num, ?_, ?_, bb.out⟩
      ·rw [hx'.out, List.length_append, List.length_singleton]
      ·rw [hx'.out]
       unfold OwnI
       rw [List.length_append, List.length_singleton, cellsI_append]
       exact O'.out
     case measure => simp [intOf]; omega
   ·rw [if_neg k4] at hx
    have hx' := hid hx
    have c4 : (e0 == 9) = false := by simpa using k4
    clear hx k4
    go_wp2_with fail
    go_roundw
    case rel => exact ⟨j + 1, A', c', by omega, by go_num, by rw [hx'.out], by rw [hx'.out]; exact World.ownsRow.alloc O.out _, HB.out.alloc sz _⟩
    case measure => simp [intOf]; omega
  ·obtain rfl : j = N := by omega
   have HB := hid hb
   rw [hfull.out] at hown ⊢
   have O := hid hown
   clear hb hown
   go_wp2_with fail
   go_ret2
   exact ⟨A', c', by rw [hr.out] <;> rfl, by rw [hr.out]; exact own_mono O.out (Nat.le_trans BB.out.size B3.out.size), BB.out.trans ((B3.out.trans (HB.out.mono B3.out.size)).mono BB.out.size)⟩
set_option maxRecDepth 100000 in
set_option maxHeartbeats 8000000 in
theorem eargS_any (lo n c : Nat) (A : Option Addr) (p : Pg) (f low high fuel : Int) (hn : n ≤ 9223372036854775807) (hl : p.length = n) (hsm : Small p 9223372036854775807) (w : World) (ho : OwnP w lo (.slice A n c) p) :
  Calls Try.prog 31 #[.agg #[.slice A n c], .int .i64 f, .int .i64 low, .int .i64 high, .int .i64 fuel] w (IntsR (eargR p f low high fuel) w) := by
 obtain ⟨i0, hi, hz0, hz1, hz2⟩ := info_parts info3
 have hq := hid (fun W (h : Below w.heap.size w W) => l4Range_any w.heap.size A n c p f low high fuel hn hl hsm W (ho.rd.below h) h.size)
 have hr0 : eargR p f low high fuel = if rangeOk p f low high fuel = true then (eArgs p f low fuel (high - low + 1).toNat, true) else ([], false) := rfl
 cases ha : rangeOk p f low high fuel with
 | false =>
  rw [ha] at hq hr0
  have hr := hid (hr0.trans (if_neg (by decide)))
  clear ha ho hsm hr0
  go_enter Try.func31, Try.ntmps31
  go_upto_region 1 with fail
  change (fun V => Code.wp _ _ _ _ V) _
  refine gen_world (X := fun V => Blk V w.heap.size 35 #[.slice A n c] ∧ Below w.heap.size w V ∧ w.heap.size < V.heap.size) ⟨heap1_0 w _, (Below.refl _ _).alloc (Nat.le_refl _) _, by simp⟩ ?_
  rintro w1 ⟨x1, b1, l1⟩
  have z1 : w1.cell? ⟨w.heap.size, 0, none⟩ = some (.slice A n c) := x1.cells 0
  have B1 := hid b1
  have B2 := hid (b1.alloc b1.size (.cells #[] 3))
  have HE := hid (show OwnI (w1.alloc (.cells #[] 3)) w.heap.size (.slice (some ⟨w1.heap.size, 0, none⟩) 0 0) [] from App.empty_own (heap1_0 w1 _) b1.size)
  clear x1 b1
  go_wp2_with fail
  refine (hq.out _ B2.out).mono ?_
  rintro e w2 ⟨rfl, b2⟩
  have O := hid (own_below HE.out b2 (Nat.le_refl _))
  have B := hid (B2.out.trans (b2.mono B2.out.size))
  clear b2
  go_wp2_with fail
  go_ret2
  exact ⟨_, _, by rw [hr.out] <;> rfl, by rw [hr.out]; exact O.out, B.out⟩
 | true =>
  obtain ⟨h1, h2, h3, h4, h5⟩ := range_num ha
  have hmid := hid (fun (q : Nat) (hq : low + q ≤ high) => range_mid ha hq)
  have hn6 := okProg_small (start_wf (n := n) h1).1
  have hru := hid (fun (q : Nat) (hq : low + q ≤ high) W (h : Below w.heap.size w W) => l2Run_any lo n c A p f (low + q) fuel hl (hn6.2.mono (by omega)) (by omega) (range_mid ha hq) W (ho.below h))
  have hrr := hid (fun (q : Nat) (hq : low + q ≤ high) => (show runR p f (low + q) fuel = (run p fuel f (low + q), true) by unfold runR; rw [range_mid ha hq]; rfl))
  rw [ha] at hq hr0
  have hr := hid (hr0.trans (if_pos rfl))
  have HLE := hid (fun q => eArgs_len p f low fuel q)
  have HYES := hid (fun (q : Nat) (h : (runR p f (low + q) fuel).1.kind = 3) => eArgs_yes h)
  have HNO := hid (fun (q : Nat) (h : (runR p f (low + q) fuel).1.kind ≠ 3) => eArgs_no h)
  clear ha ho hsm hr0 h1 hn6
  go_enter Try.func31, Try.ntmps31
  go_upto_region 1 with fail
  change (fun V => Code.wp _ _ _ _ V) _
  refine gen_world (X := fun V => Blk V w.heap.size 35 #[.slice A n c] ∧ Below w.heap.size w V ∧ w.heap.size < V.heap.size) ⟨heap1_0 w _, (Below.refl _ _).alloc (Nat.le_refl _) _, by simp⟩ ?_
  rintro w1 ⟨x1, b1, l1⟩
  have z1 : w1.cell? ⟨w.heap.size, 0, none⟩ = some (.slice A n c) := x1.cells 0
  have X1 := hid x1
  have B1 := hid b1
  have B2 := hid (show Below w1.heap.size w1 (w1.alloc (.cells #[] 3)) from (Below.refl _ _).alloc (Nat.le_refl _) _)
  have HE := hid (show OwnI (w1.alloc (.cells #[] 3)) w1.heap.size (.slice (some ⟨w1.heap.size, 0, none⟩) 0 0) [] from App.empty_own (heap1_0 w1 _) (Nat.le_refl _))
  clear x1 b1
  go_wp2_with fail
  refine (hq.out _ (B1.out.trans (B2.out.mono B1.out.size))).mono ?_
  rintro e w2 ⟨rfl, b2⟩
  have O2 := hid (own_below HE.out b2 (Nat.le_refl _))
  have C2 := hid (B2.out.trans (b2.mono B2.out.size))
  clear b2 B2 HE z1 hq
  go_wp2_with fail
  go_loopw [12, 13] (fun v i wr => ∃ (q : Nat) (A' : Option Addr) (c' : Nat), low + q ≤ high + 1 ∧ i = .int .i64 (low + q) ∧ v = .slice A' (eArgs p f low fuel q).length c' ∧ OwnI wr w1.heap.size (.slice A' (eArgs p f low fuel q).length c') (eArgs p f low fuel q) ∧ Below w1.heap.size w1 wr) (fun _ i _ => (high + 1 - intOf i).toNat)
  case atStart => exact ⟨0, _, _, by omega, by simp, rfl, O2.out, C2.out⟩
  case round =>
   obtain ⟨q, A', c', hq, rfl, rfl, hown, hb⟩ := hrel
   clear O2 C2
   have hlo := hb.size
   have hle := HLE.out q
   have HB := hid hb
   have O := hid hown
   have z1 : wr.cell? ⟨w.heap.size, 0, none⟩ = some (.slice A n c) := ((X1.out.below hb l1).cells 0)
   clear hb hown
   by_cases hlt : low + q ≤ high
   ·have HR := hid (hru.out q hlt wr (B1.out.trans (HB.out.mono B1.out.size)))
    have hk := hrr.out q hlt
    have hY := HYES.out q
    have hN := HNO.out q
    rw [hk] at hY hN
    dsimp only at hY hN
    generalize run p fuel f (low + q) = r at *
    obtain ⟨k, v, t, s⟩ := r
    have HY := hid hY
    have HN := hid hN
    clear hk hY hN
    go_wp2_with fail
    refine HR.out.mono ?_
    rintro e V ⟨A2, c2, rfl, ht, bV⟩
    unfold outval
    dsimp only
    have OV := hid (own_below O.out bV (Nat.le_refl _))
    have BV := hid (HB.out.trans (bV.mono hlo))
    have hlV := Nat.le_trans hlo bV.size
    clear ht bV z1 O HB HR
    have hf0 := fun u => out_field0 (.int .i64 k) (.int .i64 v) (.slice A2 t.length c2) (.int .i64 s) u
    by_cases k2 : k = 3
    ·subst k2
     have HX := hid (HY.out rfl)
     generalize eArgs p f low fuel q = x at *
     go_wp2_with (at_builtin; refine wpList_append_lies _ rfl _ _ 26 rfl w1.heap.size 3 i0 _ 1 8 Try.underlying26 hi hz0 hz1 hz2 rfl (by decide) _ _ _ rfl (World.ownsRow.alloc OV.out _) ⟨V.heap.size, 0, none⟩ 1 1 [.int .i64 (low + q)] rfl rfl ?cn_1 ?co_1 (by decide) ?c63_1 ?cb_1 ?cl_1 (V.heap.size + 1) ?cH_1 ?next_1)
     (try (case cn_1 => exact World.news_of_block (cs := #[.int .i64 (low + q)]) (t := 3) (fr := (0, 0)) (heap_alloc_new _ _)))
     case co_1 => first | (intro u hu; simp at hu; rcases hu with rfl; rfl) | simp [Value.oneCell']
     case c63_1 => first | (unfold maxLen; omega) | omega
     case cb_1 => omega
     case cl_1 => first | (simp; omega) | omega
     (try (case cH_1 => simp))
     case next_1 =>
      intro g2 cap2 w2' hown2 hgrow2 hat2 hlt2
      have c2' : Chg (fun y => (Value.slice A' x.length c').ownBlock = some y) V w2' := (Chg.alloc _ V _).trans (Chg.of_grown hgrow2) (fun x _ hx => hx.symm)
      have B2' := hid (BV.out.trans (c2'.below hlV (fun x hx e => by have := (World.ownsRow.lt OV.out x e).1; omega)))
      have O2 := hid hown2
      clear hown2 hgrow2 hat2 c2'
      go_wp2_with fail
      go_roundw
      case rel =>
       refine ⟨q + 1, some ⟨g2, 0, none⟩, cap2, by omega, by go_num, ?_, ?_, B2'.out⟩
       ·rw [HX.out, List.length_append, List.length_singleton]
       ·rw [HX.out]
        unfold OwnI
        rw [List.length_append, List.length_singleton, cellsI_append]
        exact O2.out
      case measure => simp [intOf]; omega
    ·have hcb : (k == 3) = false := by simpa using k2
     have HX := hid (HN.out k2)
     clear k2
     generalize eArgs p f low fuel q = x at *
     go_wp2_with fail
     go_roundw
     case rel => exact ⟨q + 1, A', c', by omega, by go_num, by rw [HX.out], by rw [HX.out]; exact OV.out, BV.out⟩
     case measure => simp [intOf]; omega
   ·have hqe : (high - low + 1).toNat = q := by omega
    have hcb : decide (low + (q : Int) ≤ high) = false := by simpa using hlt
    have HQ := hid hqe
    clear hqe hlt
    go_wp2_with fail
    go_ret2
    exact ⟨A', c', by rw [hr.out, HQ.out] <;> rfl, by rw [hr.out, HQ.out]; exact own_mono O.out (Nat.le_of_lt l1), B1.out.trans (HB.out.mono B1.out.size)⟩
set_option maxRecDepth 100000 in
set_option maxHeartbeats 8000000 in
theorem eargI_any (lo n c : Nat) (A : Option Addr) (p : Pg) (f low high fuel : Int) (hn : n ≤ 9223372036854775807) (hl : p.length = n) (hsm : Small p 9223372036854775807) (w : World) (ho : OwnP w lo (.slice A n c) p) :
  Calls Try.prog 32 #[.agg #[.slice A n c], .int .i64 f, .int .i64 low, .int .i64 high, .int .i64 fuel] w (IntsR (eargR p f low high fuel) w) := by
 obtain ⟨i0, hi, hz0, hz1, hz2⟩ := info_parts info3
 have hq := hid (fun W (h : Below w.heap.size w W) => runAll_any lo n c A p f low high fuel hn hl hsm W (ho.below h))
 have hr0 : eargR p f low high fuel = if rangeOk p f low high fuel = true then (eArgs p f low fuel (high - low + 1).toNat, true) else ([], false) := rfl
 have HAL := hid (show Below w.heap.size w (w.alloc (.cells #[.slice A n c] 35)) from (Below.refl _ _).alloc (Nat.le_refl _) _)
 cases ha : rangeOk p f low high fuel with
 | false =>
  rw [ha] at hq hr0
  have hr := hid (hr0.trans (if_neg (by decide)))
  clear ha ho hsm hr0
  go_enter Try.func32, Try.ntmps32
  go_upto_region 1 with fail
  change (fun V => Code.wp _ _ _ _ V) _
  refine gen_world (X := fun V => Blk V w.heap.size 35 #[.slice A n c] ∧ Below w.heap.size w V ∧ w.heap.size < V.heap.size) ⟨heap1_0 w _, HAL.out, by simp⟩ ?_
  rintro w1 ⟨x1, b1, l1⟩
  have z1 : w1.cell? ⟨w.heap.size, 0, none⟩ = some (.slice A n c) := x1.cells 0
  have B2 := hid (b1.alloc b1.size (.cells #[] 3))
  have HE := hid (show OwnI (w1.alloc (.cells #[] 3)) w.heap.size (.slice (some ⟨w1.heap.size, 0, none⟩) 0 0) [] from App.empty_own (heap1_0 w1 _) b1.size)
  clear x1 b1
  go_wp2_with fail
  refine (hq.out _ B2.out).mono ?_
  rintro e w2 ⟨rfl, b2⟩
  have O := hid (own_below HE.out b2 (Nat.le_refl _))
  have B := hid (B2.out.trans (b2.mono B2.out.size))
  clear b2
  go_wp2_with fail
  go_ret2
  exact ⟨_, _, by rw [hr.out] <;> rfl, by rw [hr.out]; exact O.out, B.out⟩
 | true =>
  obtain ⟨h1, h2, h3, h4, h5⟩ := range_num ha
  have hn6 := okProg_small (start_wf (n := n) h1).1
  have hru := hid (fun (g : Nat) (q : Nat) (hq : low + q ≤ high) W (h : Below w.heap.size w W) (hb : RunB W g A n c f fuel) => runOf1_any lo n c g A p f (low + q) fuel hn hl hsm (range_mid ha hq) W (ho.below h) hb)
  have hrr := hid (fun (q : Nat) (hq : low + q ≤ high) => (show runR p f (low + q) fuel = (run p fuel f (low + q), true) by unfold runR; rw [range_mid ha hq]; rfl))
  rw [ha] at hq hr0
  have hr := hid (hr0.trans (if_pos rfl))
  have HLE := hid (fun q => eArgs_len p f low fuel q)
  have HYES := hid (fun (q : Nat) (h : (runR p f (low + q) fuel).1.kind = 3) => eArgs_yes h)
  have HNO := hid (fun (q : Nat) (h : (runR p f (low + q) fuel).1.kind ≠ 3) => eArgs_no h)
  clear ha ho hsm hr0 h1 hn6
  go_enter Try.func32, Try.ntmps32
  go_upto_region 1 with fail
  change (fun V => Code.wp _ _ _ _ V) _
  refine gen_world (X := fun V => Blk V w.heap.size 35 #[.slice A n c] ∧ Below w.heap.size w V ∧ w.heap.size < V.heap.size) ⟨heap1_0 w _, HAL.out, by simp⟩ ?_
  rintro w1 ⟨x1, b1, l1⟩
  have z1 : w1.cell? ⟨w.heap.size, 0, none⟩ = some (.slice A n c) := x1.cells 0
  have X1 := hid x1
  have B1 := hid b1
  have B2 := hid (show Below w1.heap.size w1 (w1.alloc (.cells #[] 3)) from (Below.refl _ _).alloc (Nat.le_refl _) _)
  have HE := hid (show OwnI (w1.alloc (.cells #[] 3)) w1.heap.size (.slice (some ⟨w1.heap.size, 0, none⟩) 0 0) [] from App.empty_own (heap1_0 w1 _) (Nat.le_refl _))
  clear x1 b1
  go_wp2_with fail
  refine (hq.out _ (B1.out.trans (B2.out.mono B1.out.size))).mono ?_
  rintro e w2 ⟨rfl, b2⟩
  have O2 := hid (own_below HE.out b2 (Nat.le_refl _))
  have C2 := hid (B2.out.trans (b2.mono B2.out.size))
  have z2 : w2.cell? ⟨w.heap.size, 0, none⟩ = some (.slice A n c) := (X1.out.below C2.out l1).cells 0
  have l2 : w1.heap.size < w2.heap.size := by have := (World.ownsRow.lt O2.out w1.heap.size rfl).2; omega
  clear b2 B2 HE z1 hq X1
  go_wp2_with fail
  refine (runOf_any A n c f fuel _).mono ?_
  rintro e w3 ⟨rfl, rb, b3⟩
  have RB := hid rb
  have l3 := rb.lt
  have C3 := hid (B1.out.trans ((C2.out.trans (b3.mono C2.out.size)).mono B1.out.size))
  have GR := hid (show Grow w3 w1.heap.size w1.heap.size (.slice (some ⟨w1.heap.size, 0, none⟩) 0 0) [] w3 from ⟨own_below O2.out b3 (Nat.le_refl _), fun k hk => .inl (by simpa [Value.ownBlock] using hk.symm), Chg.refl _ _⟩)
  clear rb b3 z2 O2 C2
  generalize w2.heap.size = g at *
  have hbl : ∀ wr, Chg (fun b => b = w1.heap.size) w3 wr → Below w.heap.size w wr := fun wr h => C3.out.trans (h.below C3.out.size (fun x hx e => by omega))
  have HBL := hid hbl
  clear hbl
  go_wp2_with fail
  go_loopw [12, 14] (fun v i wr => ∃ (q : Nat) (A' : Option Addr) (c' : Nat), low + q ≤ high + 1 ∧ i = .int .i64 (low + q) ∧ v = .slice A' (eArgs p f low fuel q).length c' ∧ Grow w3 w1.heap.size w1.heap.size (.slice A' (eArgs p f low fuel q).length c') (eArgs p f low fuel q) wr) (fun _ i _ => (high + 1 - intOf i).toNat)
  case atStart => exact ⟨0, _, _, by omega, by simp, rfl, GR.out⟩
  case round =>
   obtain ⟨q, A', c', hq, rfl, rfl, hgr⟩ := hrel
   clear GR
   have hle := HLE.out q
   have G := hid hgr
   have HRB := hid (show RunB wr g A n c f fuel from ⟨RB.out.p.chg hgr.chg (by omega), RB.out.f.chg hgr.chg (by omega), RB.out.u.chg hgr.chg (by omega)⟩)
   have HB := hid (HBL.out wr hgr.chg)
   have hszr := hgr.chg.size
   clear hgr
   by_cases hlt : low + q ≤ high
   ·have HR := hid (hru.out g q hlt wr HB.out HRB.out)
    have hk := hrr.out q hlt
    have hY := HYES.out q
    have hN := HNO.out q
    rw [hk] at hY hN
    dsimp only at hY hN
    generalize run p fuel f (low + q) = r at *
    obtain ⟨k, v, t, s⟩ := r
    have HY := hid hY
    have HN := hid hN
    clear hk hY hN
    unfold runV
    go_wp2_with fail
    refine HR.out.mono ?_
    rintro e V ⟨A2, c2, rfl, ht, bV⟩
    unfold outval
    dsimp only
    have GV := hid (show Grow w3 w1.heap.size w1.heap.size (.slice A' (eArgs p f low fuel q).length c') (eArgs p f low fuel q) V from ⟨own_below G.out.own bV (Nat.le_refl _), G.out.at_, G.out.chg.trans (Chg.of_below (C := fun _ => False) bV) (fun _ _ h => h.elim)⟩)
    have hsV := bV.size
    clear ht bV G HR HRB HB
    have hf0 := fun u => out_field0 (.int .i64 k) (.int .i64 v) (.slice A2 t.length c2) (.int .i64 s) u
    by_cases k2 : k = 3
    ·subst k2
     have HX := hid (HY.out rfl)
     generalize eArgs p f low fuel q = x at *
     go_wp2_with (at_builtin; refine wpList_append_lies _ rfl _ _ 26 rfl w1.heap.size 3 i0 _ 1 8 Try.underlying26 hi hz0 hz1 hz2 rfl (by decide) _ _ _ rfl (World.ownsRow.alloc GV.out.own _) ⟨V.heap.size, 0, none⟩ 1 1 [.int .i64 (low + q)] rfl rfl ?cn_1 ?co_1 (by decide) ?c63_1 ?cb_1 ?cl_1 (V.heap.size + 1) ?cH_1 ?next_1)
     (try (case cn_1 => exact World.news_of_block (cs := #[.int .i64 (low + q)]) (t := 3) (fr := (0, 0)) (heap_alloc_new _ _)))
     case co_1 => first | (intro u hu; simp at hu; rcases hu with rfl; rfl) | simp [Value.oneCell']
     case c63_1 => first | (unfold maxLen; omega) | omega
     case cb_1 => omega
     case cl_1 => first | (simp; omega) | omega
     (try (case cH_1 => simp))
     case next_1 =>
      intro g2 cap2 w2' hown2 hgrow2 hat2 hlt2
      have G2 := hid (GV.out.push (z := low + q) _ rfl hown2 hgrow2 (by rcases hat2 with h | h; exact .inl h.symm; exact .inr (by rw [h, World.size_alloc]; rfl)))
      clear hown2 hgrow2 hat2
      go_wp2_with fail
      go_roundw
      case rel =>
       refine ⟨q + 1, some ⟨g2, 0, none⟩, cap2, by omega, by go_num, ?_, ?_⟩
       ·rw [HX.out, List.length_append, List.length_singleton]
       ·rw [HX.out, List.length_append, List.length_singleton]
        exact G2.out
      case measure => simp [intOf]; omega
    ·have hcb : (k == 3) = false := by simpa using k2
     have HX := hid (HN.out k2)
     clear k2
     generalize eArgs p f low fuel q = x at *
     go_wp2_with fail
     go_roundw
     case rel => exact ⟨q + 1, A', c', by omega, by go_num, by rw [HX.out], by rw [HX.out]; exact GV.out⟩
     case measure => simp [intOf]; omega
   ·have hqe : (high - low + 1).toNat = q := by omega
    have hcb : decide (low + (q : Int) ≤ high) = false := by simpa using hlt
    have HQ := hid hqe
    clear hqe hlt
    go_wp2_with fail
    go_ret2
    exact ⟨A', c', by rw [hr.out, HQ.out] <;> rfl, by rw [hr.out, HQ.out]; exact own_mono G.out.own (Nat.le_of_lt l1), HB.out⟩
end Go.Proofs.Ythejnpignlhgiaa.Exo
-- squeezed
