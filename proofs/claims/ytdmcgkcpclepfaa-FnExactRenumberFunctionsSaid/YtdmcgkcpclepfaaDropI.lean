import Derived.Test.YtdmcgkcpclepfaaSlot
import Derived.IntWalk
set_option linter.all false
namespace Go.Proofs.Ytdmcgkcpclepfaa.DropI
open Lib (hid)
open Go.ChangeShapes Go.WideShapes Go.ChangeAt Go.RowKit
open PL Mem To MarkP Res Prg PrgS StpS DeferP DeferW DelP MoveP SlotP
theorem jumps_ok {p : Pg} {i : Nat} {xs : List Tr} (hok : okProg p = true) (hx : p[i]? = some xs) : JumpOk xs := by
 intro j s hs h11
 have := ((okProg_parts hok).2.2 i xs hx).2 s (List.mem_of_getElem? hs)
 unfold okStep at this
 simp only [h11] at this
 simp at this
 exact ⟨this.1.1, this.1.2⟩
theorem jump_drop {xs : List Tr} (h : JumpOk xs) (k : Nat) : JumpOk (xs.take k ++ xs.drop (k + 1)) := by
 intro j s hs h11
 have hm := List.mem_of_getElem? hs
 have : s ∈ xs := by
  rcases List.mem_append.1 hm with h | h
  ·exact List.mem_of_mem_take h
  ·exact List.mem_of_mem_drop h
 obtain ⟨i, hi⟩ := List.getElem?_of_mem this
 exact h i s hi h11
def two (n c : Nat) (A : Option Addr) (w : World) : World := (w.alloc (.cells #[.slice A n c] 31)).alloc (.cells #[.slice none 0 0] 31)
theorem two_facts {n c : Nat} {A : Option Addr} {w w1 : World} (b : Below (two n c A w).heap.size (two n c A w) w1) :
  Blk w1 w.heap.size 31 #[.slice A n c] ∧ Blk w1 (w.heap.size + 1) 31 #[.slice none 0 0] ∧ Below w.heap.size w w1 ∧ w.heap.size + 2 ≤ w1.heap.size := by
 have h2 : Below w.heap.size w (two n c A w) := ((Below.refl _ _).alloc (Nat.le_refl _) _).alloc (by simp) _
 have hs : (two n c A w).heap.size = w.heap.size + 1 + 1 := by simp [two]
 exact ⟨Blk.below (heap2_0 _ _ _) b (by rw [hs]; omega), Blk.below (heap2_1 _ _ _) b (by rw [hs]; omega), h2.trans (b.mono (by omega)), by have := b.size; omega⟩
theorem two_below (n c : Nat) (A : Option Addr) (w : World) : Below w.heap.size w (two n c A w) := ((Below.refl _ _).alloc (Nat.le_refl _) _).alloc (by simp) _
set_option maxHeartbeats 1000000 in
set_option maxRecDepth 100000 in
theorem implDrop_any (lo n c : Nat) (A : Option Addr) (p : Pg) (f at' : Int) (hn : n ≤ 2000000) (hl : p.length = n) (hsm : Small p 2000000) (w : World) (ho : OwnP w lo (.slice A n c) p) :
  Calls Try.prog 89 #[.agg #[.slice A n c], .int .i64 f, .int .i64 at'] w (ProgR (dropR p f at') w) := by
 have hF := hid (fun w hr hB => isFunction_any w.heap.size A n c p f (by omega) hl (hsm.mono (by omega)) w hr hB)
 have hO := hid ho
 clear ho
 cases hfn : isFn p f with
 | false =>
  have hs := hid (show dropR p f at' = ([], false) by unfold dropR; rw [hfn]; rfl)
  rw [hfn] at hF
  clear hfn hl hsm
  go_enter Try.func89, Try.ntmps89
  go_wp2_with fail
  refine (hF.out _ (hO.out.below (two_below n c A w)).rd (Nat.le_refl _)).mono ?_
  rintro e w1 ⟨rfl, b1⟩
  obtain ⟨d0, d1, bb1, s1⟩ := two_facts b1
  have z0 : w1.cell? ⟨w.heap.size, 0, none⟩ = some (.slice A n c) := d0.cells 0
  have z1 : w1.cell? ⟨w.heap.size + 1, 0, none⟩ = some (.slice none 0 0) := d1.cells 0
  have f1 := d1.frozen 0
  clear d0 d1 b1
  go_wp2_with fail
  exact bodyPost_ret (v := .tuple #[.agg #[.slice none 0 0], .bool false]) (by simp [results, Try.results89, go_sem, z1]) rfl (by rw [hs.out]; exact ⟨none, 0, rfl, own_nil _ _, bb1.setCell (by show w.heap.size ≤ w.heap.size + 1; omega) _⟩)
 | true =>
  rw [hfn] at hF
  by_cases a0 : at' < 0
  ·have hs := hid (show dropR p f at' = ([], false) by unfold dropR; rw [if_neg (by simp; omega)])
   clear hfn hl hsm
   go_enter Try.func89, Try.ntmps89
   go_wp2_with fail
   refine (hF.out _ (hO.out.below (two_below n c A w)).rd (Nat.le_refl _)).mono ?_
   rintro e w1 ⟨rfl, b1⟩
   obtain ⟨d0, d1, bb1, s1⟩ := two_facts b1
   have z0 : w1.cell? ⟨w.heap.size, 0, none⟩ = some (.slice A n c) := d0.cells 0
   have z1 : w1.cell? ⟨w.heap.size + 1, 0, none⟩ = some (.slice none 0 0) := d1.cells 0
   have f1 := d1.frozen 0
   clear d0 d1 b1
   go_wp2_with fail
   exact bodyPost_ret (v := .tuple #[.agg #[.slice none 0 0], .bool false]) (by simp [results, Try.results89, go_sem, z1]) rfl (by rw [hs.out]; exact ⟨none, 0, rfl, own_nil _ _, bb1.setCell (by show w.heap.size ≤ w.heap.size + 1; omega) _⟩)
  ·obtain ⟨hok, f0, fn, hx⟩ := isFn_parts hfn
   obtain ⟨j, rfl⟩ := Int.eq_ofNat_of_zero_le f0
   obtain ⟨k, rfl⟩ := Int.eq_ofNat_of_zero_le (show 0 ≤ at' by omega)
   obtain ⟨_, hn6, hsm8⟩ := okProg_parts hok
   have hC := hid (fun (W : World) (h : OwnP W lo (.slice A n c) p) => CopyP.copyProgram_any lo n c A p (by omega) hl (fun i xs h => Nat.le_trans (hsm8 i xs h).1 (by omega)) W h)
   rw [Int.toNat_natCast] at hx
   have hxl := (hsm8 j _ hx).1
   have hjo := jumps_ok hok hx
   have hres : dropR p j k = if k < (body p j).length then (p.set j (dropB (body p j) k), true) else ([], false) := by
    unfold dropR
    rw [hfn]
    simp
   generalize body p j = xs at *
   have HX := hid hx
   have hjn : j < n := by omega
   have hL := hid hl
   have HRES := hid hres
   clear hfn hl hsm hok fn hn6 hsm8 f0 hres
   obtain ⟨g0, Ai0, ci0, rfl, hc0⟩ : ∃ g Ai ci, A = some ⟨g, 0, none⟩ ∧ w.cell? ⟨g, j, none⟩ = some (.slice Ai xs.length ci) := by
    obtain ⟨g, Ai, ci, e, hc, _⟩ := (OwnH.of hO.out).row hx
    exact ⟨g, Ai, ci, e, hc⟩
   have hg0 : g0 < w.heap.size := World.block_lt_of_cell? w _ hc0
   clear hx
   by_cases hlt : k < xs.length
   ·have hs := hid (show dropR p j k = (p.set j ((xs.take k ++ xs.drop (k + 1)).map (moveS (k + 1) (-1))), true) by rw [HRES.out, if_pos hlt]; simp [dropB])
    clear a0
    go_enter Try.func89, Try.ntmps89
    go_wp2_with fail
    refine (hF.out _ (hO.out.below (two_below n c _ w)).rd (Nat.le_refl _)).mono ?_
    rintro e w1 ⟨rfl, b1⟩
    obtain ⟨d0, d1, bb1, s1⟩ := two_facts b1
    have z0 : w1.cell? ⟨w.heap.size, 0, none⟩ = some (.slice (some ⟨g0, 0, none⟩) n c) := d0.cells 0
    have zg : w1.cell? ⟨g0, j, none⟩ = some (.slice Ai0 xs.length ci0) := (bb1.cell (p := ⟨g0, j, none⟩) hg0).trans hc0
    clear b1 hc0
    go_wp2_with fail
    refine (hC.out _ (hO.out.below bb1)).mono ?_
    rintro e w2 ⟨A2, c2, rfl, o2, b2⟩
    have D1 := hid (d1.below b2 d1.lt)
    have bb2 := hid (bb1.trans (b2.mono bb1.size))
    have s2 := b2.size
    obtain ⟨g, Ai, ci, rfl, hlg, hgl, hc2, hf2, hrow, hbd, hne, hput⟩ := OwnH_slot (OwnH.of o2) HX.out
    have OG : (Value.slice (some ⟨g, 0, none⟩) n c2).ownBlock = some g := rfl
    have HP := hid hput
    have HB := hid hbd
    have HR := hid hrow
    have HC2 := hid hc2
    have HF2 := hid hf2
    clear z0 zg d0 d1 bb1 b2 o2 hput hbd hrow hc2 hf2 OG
    go_wp2_with fail
    obtain ⟨W3, hW3⟩ : ∃ W3, w2.alloc (.cells #[.slice (some ⟨g, 0, none⟩) n c2] 31) = W3 := ⟨_, rfl⟩
    have b3 : Below w2.heap.size w2 W3 := by rw [← hW3]; exact (Below.refl _ _).alloc (Nat.le_refl _) _
    have B3 : Blk W3 w2.heap.size 31 #[.slice (some ⟨g, 0, none⟩) n c2] := by rw [← hW3]; exact blk_new _ _ _
    rw [hW3]
    have R3 := hid (own_below HR.out b3 (Nat.le_refl _))
    have s3 := B3.lt
    have x1 : W3.cell? ⟨w2.heap.size, 0, none⟩ = some (.slice (some ⟨g, 0, none⟩) n c2) := B3.cells 0
    have x2 : W3.cell? ⟨g, j, none⟩ = some (.slice Ai xs.length ci) := (b3.cell (p := ⟨g, j, none⟩) hgl).trans HC2.out
    have C3 := hid (Chg.of_below (C := fun b => (Value.slice Ai xs.length ci).ownBlock = some b) b3)
    have hd := hid (fun V (h : V.ownsRow w1.heap.size 58 3 (.slice Ai xs.length ci) xs.length (cells3 xs)) => delete_any w1.heap.size xs.length ci Ai xs k (by omega) rfl hlt V h)
    have hwr : IntKind.i64.wrap ((k : Int) + 1) = (k : Int) + 1 := IntWalk.i64_in _ (by omega)
    have hj0 : (0 : Int) ≤ (j : Int) := by omega
    have hj1 : (j : Int) < (n : Int) := by omega
    have B3' := hid B3
    have b3' := hid b3
    clear hW3 b3 B3
    have S0 : (fun V : World => V.cell? ⟨w2.heap.size, 0, none⟩ = some (.slice (some ⟨g, 0, none⟩) n c2) ∧ V.cell? ⟨g, j, none⟩ = some (.slice Ai xs.length ci)) W3.drew := ⟨x1, x2⟩
    refine Last.region_last 13 (fun V : World => V.cell? ⟨w2.heap.size, 0, none⟩ = some (.slice (some ⟨g, 0, none⟩) n c2) ∧ V.cell? ⟨g, j, none⟩ = some (.slice Ai xs.length ci)) (by kernel_rfl) ?_
    refine Last.last_take (i := 0) (d := some 30) (v := ?v0) rfl rfl (by kernel_rfl) (by kernel_rfl) (by kernel_rfl) (fun _ _ _ h => h) rfl (by kernel_rfl) (by kernel_rfl) rfl ?y0 S0 ?r0
    case y0 => (intro V hV; (try dsimp only at hV); go_simp; try with_reducible rfl)
    simp only [Act.put, List.setIfInBounds_toArray, List.set_cons_zero, List.set_cons_succ]
    refine Last.last_take (i := 1) (d := some 31) (v := ?v1) rfl rfl (by kernel_rfl) (by kernel_rfl) (by kernel_rfl) (fun _ _ _ h => h) rfl (by kernel_rfl) (by kernel_rfl) rfl ?y1 S0 ?r1
    case y1 => (intro V hV; (try dsimp only at hV); go_simp; try with_reducible rfl)
    simp only [Act.put, List.setIfInBounds_toArray, List.set_cons_zero, List.set_cons_succ]
    refine Last.last_take (i := 2) (d := some 32) (v := ?v2) rfl rfl (by kernel_rfl) (by kernel_rfl) (by kernel_rfl) (fun _ _ _ h => h) rfl (by kernel_rfl) (by kernel_rfl) rfl ?y2 S0 ?r2
    case y2 => (intro V hV; (try dsimp only at hV); go_simp; try with_reducible rfl)
    simp only [Act.put, List.setIfInBounds_toArray, List.set_cons_zero, List.set_cons_succ]
    refine Last.last_take (i := 3) (d := some 33) (v := ?v3) rfl rfl (by kernel_rfl) (by kernel_rfl) (by kernel_rfl) (fun _ _ _ h => h) rfl (by kernel_rfl) (by kernel_rfl) rfl ?y3 S0 ?r3
    case y3 => (intro V hV; (try dsimp only at hV); go_simp; try with_reducible rfl)
    simp only [Act.put, List.setIfInBounds_toArray, List.set_cons_zero, List.set_cons_succ]
    refine Last.last_take (i := 4) (d := some 34) (v := ?v4) rfl rfl (by kernel_rfl) (by kernel_rfl) (by kernel_rfl) (fun _ _ _ h => h) rfl (by kernel_rfl) (by kernel_rfl) rfl ?y4 S0 ?r4
    case y4 => (intro V hV; (try dsimp only at hV); go_simp; try with_reducible rfl)
    simp only [Act.put, List.setIfInBounds_toArray, List.set_cons_zero, List.set_cons_succ]
    refine Last.last_take (i := 5) (d := some 35) (v := ?v5) rfl rfl (by kernel_rfl) (by kernel_rfl) (by kernel_rfl) (fun _ _ _ h => h) rfl (by kernel_rfl) (by kernel_rfl) rfl ?y5 S0 ?r5
    case y5 => (intro V hV; (try dsimp only at hV); go_simp; try with_reducible rfl)
    simp only [Act.put, List.setIfInBounds_toArray, List.set_cons_zero, List.set_cons_succ]
    refine Last.last_take (i := 6) (d := some 36) (v := ?v6) rfl rfl (by kernel_rfl) (by kernel_rfl) (by kernel_rfl) (fun _ _ _ h => h) rfl (by kernel_rfl) (by kernel_rfl) rfl ?y6 S0 ?r6
    case y6 => (intro V hV; (try dsimp only at hV); go_simp; try with_reducible rfl)
    simp only [Act.put, List.setIfInBounds_toArray, List.set_cons_zero, List.set_cons_succ]
    refine Last.last_take (i := 7) (d := some 37) (v := ?v7) rfl rfl (by kernel_rfl) (by kernel_rfl) (by kernel_rfl) (fun _ _ _ h => h) rfl (by kernel_rfl) (by kernel_rfl) rfl ?y7 S0 ?r7
    case y7 => (intro V hV; (try dsimp only at hV); go_simp; try with_reducible rfl)
    simp only [Act.put, List.setIfInBounds_toArray, List.set_cons_zero, List.set_cons_succ]
    refine Last.last_take (i := 8) (d := some 38) (v := ?v8) rfl rfl (by kernel_rfl) (by kernel_rfl) (by kernel_rfl) (fun _ _ _ h => h) rfl (by kernel_rfl) (by kernel_rfl) rfl ?y8 S0 ?r8
    case y8 => (intro V hV; (try dsimp only at hV); go_simp; try with_reducible rfl)
    simp only [Act.put, List.setIfInBounds_toArray, List.set_cons_zero, List.set_cons_succ]
    refine Last.last_take (i := 9) (d := some 39) (v := ?v9) rfl rfl (by kernel_rfl) (by kernel_rfl) (by kernel_rfl) (fun _ _ _ h => h) rfl (by kernel_rfl) (by kernel_rfl) rfl ?y9 S0 ?r9
    case y9 => (intro V hV; (try dsimp only at hV); go_simp; try with_reducible rfl)
    simp only [Act.put, List.setIfInBounds_toArray, List.set_cons_zero, List.set_cons_succ]
    refine Last.last_take (i := 10) (d := some 40) (v := ?v10) rfl rfl (by kernel_rfl) (by kernel_rfl) (by kernel_rfl) (fun _ _ _ h => h) rfl (by kernel_rfl) (by kernel_rfl) rfl ?y10 S0 ?r10
    case y10 => (intro V hV; (try dsimp only at hV); go_simp; try with_reducible rfl)
    simp only [Act.put, List.setIfInBounds_toArray, List.set_cons_zero, List.set_cons_succ]
    refine Last.last_one (i := 11) (o := { dst := some 41, op := .call { callee := .value (.func 126), args := #[.tmp 37, .tmp 38, .tmp 40], argTypes := #[59, 3, 3] }, type := 59, pos := _, after := _, guard := none }) (by kernel_rfl) rfl rfl (fun K hK => ?_)
    go_simp
    refine (hd.out W3.drew R3.out).mono ?_
    rintro e w4 ⟨rfl, o4, c4⟩
    have hlen : (xs.take k ++ xs.drop (k + 1)).length = xs.length - 1 := by simp; omega
    have y1 : w4.cell? ⟨w2.heap.size, 0, none⟩ = some (.slice (some ⟨g, 0, none⟩) n c2) := (c4.cell (p := ⟨w2.heap.size, 0, none⟩) s3 (App.own_blk_ne R3.out B3'.out (by decide))).trans x1
    have y2 : w4.cell? ⟨g, j, none⟩ = some (.slice Ai xs.length ci) := (c4.cell (p := ⟨g, j, none⟩) (by show g < W3.heap.size; omega) hne).trans x2
    have c24 : Chg (fun b => (Value.slice Ai xs.length ci).ownBlock = some b) w2 w4 := C3.out.trans (Chg.trans (Chg.drew (fun b => (Value.slice Ai xs.length ci).ownBlock = some b) W3) c4 (fun _ _ h => h)) (fun _ _ h => h)
    have y3 := HF2.out w4 c24
    have o5 := HP.out w4 (.slice Ai (xs.length - 1) ci) (xs.take k ++ xs.drop (k + 1)) c24 (by rw [hlen]; exact o4) (fun x hx => .inl ((ob Ai _ _ ci).trans hx))
    refine hK.out _ _ (fun _ => ⟨y1, y2⟩) ?_
    clear hK K S0 x1 x2 hd
    refine Last.last_one (i := 12) (o := { dst := some 42, op := .indexAddr 29 (.tmp 31) (.tmp 32), type := 0, pos := _, after := _, guard := none }) (by kernel_rfl) rfl rfl (fun K hK => ?_)
    go_simp
    refine hK.out _ _ (fun _ => ⟨y1, y2⟩) ?_
    clear hK K
    refine Last.last_one (i := 13) (o := { dst := none, op := .store 59 (.tmp 42) (.tmp 41), type := 0, pos := _, after := _, guard := none }) (by kernel_rfl) rfl rfl (fun K hK => ?_)
    go_simp
    refine hK.out _ _ (fun h => absurd rfl h) ?_
    clear hK K
    refine Last.last_done (by kernel_rfl) ?_ _
    obtain ⟨w5, hw5⟩ : ∃ w5, w4.setCell ⟨g, j, none⟩ (.slice Ai (xs.length - 1) ci) = w5 := ⟨_, rfl⟩
    rw [hw5] at o5 ⊢
    have q1 : w5.cell? ⟨w2.heap.size, 0, none⟩ = some (.slice (some ⟨g, 0, none⟩) n c2) := by rw [← hw5]; exact (World.cell?_setCell_other _ _ _ _ (by intro e; have := congrArg Addr.block e; simp only at this; omega)).trans y1
    have q2 : w5.cell? ⟨g, j, none⟩ = some (.slice Ai (xs.length - 1) ci) := by rw [← hw5]; simp [World.cell?_setCell_same, y2]
    have B5 : Blk w5 w2.heap.size 31 #[.slice (some ⟨g, 0, none⟩) n c2] := by rw [← hw5]; exact (Blk.chg (w := W3.drew) B3'.out c4 (App.own_blk_ne R3.out B3'.out (by decide))).far _ _ (by show w2.heap.size ≠ g; omega)
    have D5 : Blk w5 (w.heap.size + 1) 31 #[.slice none 0 0] := by rw [← hw5]; exact ((D1.out.chg c24 (App.own_blk_ne HR.out D1.out (by decide)))).far _ _ (by show w.heap.size + 1 ≠ g; omega)
    have bb5 : Below w.heap.size w w5 := by
     rw [← hw5]
     refine Below.setCell ?_ (by show w.heap.size ≤ g; omega) _
     exact bb2.out.trans (c24.below bb2.out.size (fun x hx hx' => by have := (HB.out x hx').1; omega))
    have s5 : w2.heap.size < w5.heap.size := B5.lt
    obtain ⟨g', Ai', ci', e', hc', hrow', hbd', hput'⟩ := (OwnH.of o5).row (show (p.set j (xs.take k ++ xs.drop (k + 1)))[j]? = some (xs.take k ++ xs.drop (k + 1)) from by rw [List.getElem?_set_self (by rw [hL.out]; exact hjn)])
    obtain rfl : g = g' := by simpa using e'
    rw [q2] at hc'
    simp only [Option.some.injEq, Value.slice.injEq] at hc'
    obtain ⟨rfl, hz9, rfl⟩ := hc'
    clear hz9
    rw [hlen] at hrow' hbd' hput'
    have HP' := hid hput'
    have HR' := hid hrow'
    have HB' := hid hbd'
    have HLEN := hid hlen
    have hm := hid (fun V (h : V.ownsRow w1.heap.size 58 3 (.slice Ai (xs.length - 1) ci) (xs.length - 1) (cells3 (xs.take k ++ xs.drop (k + 1)))) => move_any w1.heap.size (xs.length - 1) ci Ai (xs.take k ++ xs.drop (k + 1)) (k + 1) (-1) (by omega) HLEN.out (jump_drop hjo k) ⟨by omega, by omega⟩ V h)
    clear hw5 y1 y2 y3 o4 c4 c24 o5 e' hrow' hbd' hput' hlen hj0 hj1
    go_wp2_with fail
    with_reducible refine (hm.out w5 HR'.out).mono ?_
    rintro e w6 ⟨rfl, o6, c6⟩
    have B6 := B5.chg c6 (App.own_blk_ne HR'.out B5 (by decide))
    have D6 := D5.chg c6 (App.own_blk_ne HR'.out D5 (by decide))
    have z6 : w6.cell? ⟨w2.heap.size, 0, none⟩ = some (.slice (some ⟨g, 0, none⟩) n c2) := B6.cells 0
    have z1 : w6.cell? ⟨w.heap.size + 1, 0, none⟩ = some (.slice none 0 0) := D6.cells 0
    have f1 := D6.frozen 0
    have fin := HP'.out w6 ((xs.take k ++ xs.drop (k + 1)).map (moveS (k + 1) (-1))) (by rw [List.length_map]; exact HLEN.out) o6 c6
    have bb6 : Below w.heap.size w w6 := bb5.trans (c6.below bb5.size (fun x hx hx' => by have := (HB'.out x hx').1; omega))
    clear q1 q2 B6 B5 D5 D6 o6 c6
    go_wp2_with fail
    refine bodyPost_ret (v := .tuple #[.agg #[.slice (some ⟨g, 0, none⟩) n c2], .bool true]) (by simp [results, Try.results89, go_sem, z1]) rfl ?_
    rw [List.set_set] at fin
    have fin2 := (fin.keep (w' := w6.setCell ⟨w.heap.size + 1, 0, none⟩ (.slice (some ⟨g, 0, none⟩) n c2)) (fun b h1 _ => Below.heap_setCell _ _ _ _ (by show b ≠ w.heap.size + 1; omega))).own.mono (show w.heap.size ≤ w1.heap.size by omega)
    rw [hs.out]
    have hl : (p.set j ((xs.take k ++ xs.drop (k + 1)).map (moveS (k + 1) (-1)))).length = n := by rw [List.length_set]; exact hL.out
    exact ⟨_, _, by rw [hl], by rw [hl]; exact fin2, bb6.setCell (by show w.heap.size ≤ w.heap.size + 1; omega) _⟩
   ·have hs := hid (show dropR p j k = ([], false) by rw [HRES.out, if_neg hlt])
    have hge : decide ((xs.length : Int) ≤ (k : Int)) = true := by simp; omega
    clear a0
    go_enter Try.func89, Try.ntmps89
    go_wp2_with fail
    refine (hF.out _ (hO.out.below (two_below n c _ w)).rd (Nat.le_refl _)).mono ?_
    rintro e w1 ⟨rfl, b1⟩
    obtain ⟨d0, d1, bb1, s1⟩ := two_facts b1
    have z0 : w1.cell? ⟨w.heap.size, 0, none⟩ = some (.slice (some ⟨g0, 0, none⟩) n c) := d0.cells 0
    have zg : w1.cell? ⟨g0, j, none⟩ = some (.slice Ai0 xs.length ci0) := (bb1.cell (p := ⟨g0, j, none⟩) hg0).trans hc0
    have z1 : w1.cell? ⟨w.heap.size + 1, 0, none⟩ = some (.slice none 0 0) := d1.cells 0
    have f1 := d1.frozen 0
    clear b1 hc0 d0 d1
    go_wp2_with fail
    exact bodyPost_ret (v := .tuple #[.agg #[.slice none 0 0], .bool false]) (by simp [results, Try.results89, go_sem, z1]) rfl (by rw [hs.out]; exact ⟨none, 0, rfl, own_nil _ _, bb1.setCell (by show w.heap.size ≤ w.heap.size + 1; omega) _⟩)
end Go.Proofs.Ytdmcgkcpclepfaa.DropI
-- squeezed
