/- spec.PutStep: its tests ahead of l2Put. (Written by wip/tools/genputs2.py.) -/
import Derived.Test.YtgfjdfmmkomolaaPutS
namespace Go.Proofs.Ytgfjdfmmkomolaa.PutS2
set_option linter.unusedVariables false
set_option linter.unusedSimpArgs false
open Go.ChangeShapes Go.WideShapes Go.ChangeAt Go.RowKit
open PL Mem To MarkP Res Prg PrgS StpS DeferP DeferW DelP MoveP SlotP DropI OwnS DropS InsP PutI PutS

set_option maxHeartbeats 2000000 in
set_option maxRecDepth 100000 in
theorem specPut_any (lo n c : Nat) (A : Option Addr) (p : Pg) (f at' : Int) (s : Tr) (hn : n ≤ 2000000) (hl : p.length = n) (hsm : Small p 2000000) (w : World) (ho : OwnP w lo (.slice A n c) p) :
    Calls Try.prog 15 #[.agg #[.slice A n c], .int .i64 f, .int .i64 at', .agg #[.int .i64 s.1, .int .i64 s.2.1, .int .i64 s.2.2]] w (ProgR (putR p f at' s) w) := by
  have hF := Lib.hid (fun w hr hB => l2Program_any w.heap.size A n c p (by omega) hl (hsm.mono (by omega)) w hr hB)
  have hG := Lib.hid (fun w => l2Function_any A n c f (by omega) w)
  have hS := Lib.hid (fun w => l2Step_any s.1 s.2.1 s.2.2 A n c (by omega) w)
  have hO := Lib.hid ho
  clear ho
  cases hok : okProg p with
  | false =>
    have hs := Lib.hid (show putR p f at' s = ([], false) by unfold putR; rw [isFn_eq, hok]; rfl)
    rw [hok] at hF
    clear hok hl hsm hG hS
    go_enter Try.func15, Try.ntmps15
    go_wp2_with fail
    refine (hF.out _ (hO.out.below (three_below n c A s w)).rd (Nat.le_refl _)).mono ?_
    rintro e w1 ⟨rfl, b1⟩
    obtain ⟨d0, ds, d1, bb1, s1⟩ := three_facts b1
    have z0 : w1.cell? ⟨w.heap.size, 0, none⟩ = some (.slice A n c) := d0.cells 0
    have zz : w1.cell? ⟨w.heap.size + 1 + 1, 0, none⟩ = some (.slice none 0 0) := d1.cells 0
    have ff := d1.frozen 0
    clear d0 ds d1 b1
    go_wp2_with fail
    exact bodyPost_ret (v := .tuple #[.agg #[.slice none 0 0], .bool false]) (by simp [results, Try.results15, go_sem, zz]) rfl (by rw [hs.out]; exact ⟨none, 0, rfl, own_nil _ _, bb1.setCell (by show w.heap.size ≤ w.heap.size + 1 + 1; omega) _⟩)
  | true =>
    rw [hok] at hF
    cases hin : inP f n with
    | false =>
      have hs := Lib.hid (show putR p f at' s = ([], false) by unfold putR; rw [isFn_eq, hok, hl, hin]; rfl)
      rw [hin] at hG
      clear hok hl hsm hin hS
      go_enter Try.func15, Try.ntmps15
      go_wp2_with fail
      refine (hF.out _ (hO.out.below (three_below n c A s w)).rd (Nat.le_refl _)).mono ?_
      rintro e w1 ⟨rfl, b1⟩
      obtain ⟨d0, ds, d1, bb1, s1⟩ := three_facts b1
      have z0 : w1.cell? ⟨w.heap.size, 0, none⟩ = some (.slice A n c) := d0.cells 0
      clear b1
      go_wp2_with fail
      refine (hG.out _).mono ?_
      rintro e w3 ⟨rfl, hw3⟩
      have z3 : w3.cell? ⟨w.heap.size, 0, none⟩ = some (.slice A n c) := by rw [← hw3]; exact (d0.alloc _).cells 0
      have DS := Lib.hid (show Blk w3 (w.heap.size + 1) 34 #[.int .i64 s.1, .int .i64 s.2.1, .int .i64 s.2.2] by rw [← hw3]; exact ds.alloc _)
      have D0 := Lib.hid (show Blk w3 w.heap.size 30 #[.slice A n c] by rw [← hw3]; exact d0.alloc _)
      have D1 := Lib.hid (show Blk w3 (w.heap.size + 1 + 1) 30 #[.slice none 0 0] by rw [← hw3]; exact d1.alloc _)
      have bb3 : Below w.heap.size w w3 := by rw [← hw3]; exact bb1.alloc bb1.size _
      clear d0 ds d1 hw3 z0
      have zz : w3.cell? ⟨w.heap.size + 1 + 1, 0, none⟩ = some (.slice none 0 0) := D1.out.cells 0
      have ff := D1.out.frozen 0
      clear D0 DS D1
      go_wp2_with fail
      exact bodyPost_ret (v := .tuple #[.agg #[.slice none 0 0], .bool false]) (by simp [results, Try.results15, go_sem, zz]) rfl (by rw [hs.out]; exact ⟨none, 0, rfl, own_nil _ _, bb3.setCell (by show w.heap.size ≤ w.heap.size + 1 + 1; omega) _⟩)
    | true =>
      have hfn : isFn p f = true := by rw [isFn_eq, hok, hl, hin]; rfl
      obtain ⟨_, f0, fn, hx⟩ := isFn_parts hfn
      obtain ⟨j, rfl⟩ := Int.eq_ofNat_of_zero_le f0
      obtain ⟨_, hn6, hsm8⟩ := okProg_parts hok
      rw [Int.toNat_natCast] at hx
      have hxl := (hsm8 j _ hx).1
      have hjo := jumps_ok hok hx
      have hres : putR p j at' s = if okStep n s ∧ (body p j).length ≠ 8 ∧ 0 ≤ at' ∧ at' ≤ (body p j).length then (p.set j (putB (body p j) at'.toNat s), true) else ([], false) := by
        unfold putR
        rw [hfn, hl]
        simp [and_assoc]
      rw [hin] at hG
      generalize body p j = xs at *
      have hB := Lib.hid (fun w => l1In_any at' 0 (xs.length : Int) w)
      have hD := Lib.hid (fun (k : Nat) (hk : k ≤ xs.length) (W : World) (h : OwnP W lo (.slice A n c) p) => l2Put_any lo n c A p j k xs s hl (by omega) (fun i ys hy => (hsm8 i ys hy).1) hx hk hjo W h)
      obtain ⟨g0, Ai0, ci0, rfl, hc0⟩ : ∃ g Ai ci, A = some ⟨g, 0, none⟩ ∧ w.cell? ⟨g, j, none⟩ = some (.slice Ai xs.length ci) := by
        obtain ⟨g, Ai, ci, e, hc, _⟩ := (OwnH.of hO.out).row hx
        exact ⟨g, Ai, ci, e, hc⟩
      have hg0 : g0 < w.heap.size := World.block_lt_of_cell? w _ hc0
      have hjn : j < n := by omega
      have HRES := Lib.hid hres
      have hL := Lib.hid hl
      clear hfn hl hsm hok fn hn6 hsm8 hx f0 hin hres hjo
      by_cases h8 : xs.length = 8
      · have hs := Lib.hid (show putR p j at' s = ([], false) by rw [HRES.out, if_neg (fun h => h.2.1 h8)])
        rw [h8] at hc0
        clear hB hD hS
        go_enter Try.func15, Try.ntmps15
        go_wp2_with fail
        refine (hF.out _ (hO.out.below (three_below n c _ s w)).rd (Nat.le_refl _)).mono ?_
        rintro e w1 ⟨rfl, b1⟩
        obtain ⟨d0, ds, d1, bb1, s1⟩ := three_facts b1
        have z0 : w1.cell? ⟨w.heap.size, 0, none⟩ = some (.slice (some ⟨g0, 0, none⟩) n c) := d0.cells 0
        clear b1
        go_wp2_with fail
        refine (hG.out _).mono ?_
        rintro e w3 ⟨rfl, hw3⟩
        have z3 : w3.cell? ⟨w.heap.size, 0, none⟩ = some (.slice (some ⟨g0, 0, none⟩) n c) := by rw [← hw3]; exact (d0.alloc _).cells 0
        have DS := Lib.hid (show Blk w3 (w.heap.size + 1) 34 #[.int .i64 s.1, .int .i64 s.2.1, .int .i64 s.2.2] by rw [← hw3]; exact ds.alloc _)
        have D0 := Lib.hid (show Blk w3 w.heap.size 30 #[.slice (some ⟨g0, 0, none⟩) n c] by rw [← hw3]; exact d0.alloc _)
        have D1 := Lib.hid (show Blk w3 (w.heap.size + 1 + 1) 30 #[.slice none 0 0] by rw [← hw3]; exact d1.alloc _)
        have bb3 : Below w.heap.size w w3 := by rw [← hw3]; exact bb1.alloc bb1.size _
        clear d0 ds d1 hw3 z0
        have zz : w3.cell? ⟨w.heap.size + 1 + 1, 0, none⟩ = some (.slice none 0 0) := D1.out.cells 0
        have ff := D1.out.frozen 0
        have zg : w3.cell? ⟨g0, j, none⟩ = some (.slice Ai0 8 ci0) := (bb3.cell (p := ⟨g0, j, none⟩) hg0).trans hc0
        clear hc0
        clear D0 DS D1
        go_wp2_with fail
        exact bodyPost_ret (v := .tuple #[.agg #[.slice none 0 0], .bool false]) (by simp [results, Try.results15, go_sem, zz]) rfl (by rw [hs.out]; exact ⟨none, 0, rfl, own_nil _ _, bb3.setCell (by show w.heap.size ≤ w.heap.size + 1 + 1; omega) _⟩)
      · have h8' : ((xs.length : Int) == 8) = false := by simp; omega
        cases hb : btw at' 0 (xs.length : Int) with
        | false =>
          have hs := Lib.hid (show putR p j at' s = ([], false) by rw [HRES.out, if_neg (fun h => by unfold btw at hb; simp at hb; omega)])
          rw [hb] at hB
          clear hb hD hS h8
          go_enter Try.func15, Try.ntmps15
          go_wp2_with fail
          refine (hF.out _ (hO.out.below (three_below n c _ s w)).rd (Nat.le_refl _)).mono ?_
          rintro e w1 ⟨rfl, b1⟩
          obtain ⟨d0, ds, d1, bb1, s1⟩ := three_facts b1
          have z0 : w1.cell? ⟨w.heap.size, 0, none⟩ = some (.slice (some ⟨g0, 0, none⟩) n c) := d0.cells 0
          clear b1
          go_wp2_with fail
          refine (hG.out _).mono ?_
          rintro e w3 ⟨rfl, hw3⟩
          have z3 : w3.cell? ⟨w.heap.size, 0, none⟩ = some (.slice (some ⟨g0, 0, none⟩) n c) := by rw [← hw3]; exact (d0.alloc _).cells 0
          have DS := Lib.hid (show Blk w3 (w.heap.size + 1) 34 #[.int .i64 s.1, .int .i64 s.2.1, .int .i64 s.2.2] by rw [← hw3]; exact ds.alloc _)
          have D0 := Lib.hid (show Blk w3 w.heap.size 30 #[.slice (some ⟨g0, 0, none⟩) n c] by rw [← hw3]; exact d0.alloc _)
          have D1 := Lib.hid (show Blk w3 (w.heap.size + 1 + 1) 30 #[.slice none 0 0] by rw [← hw3]; exact d1.alloc _)
          have bb3 : Below w.heap.size w w3 := by rw [← hw3]; exact bb1.alloc bb1.size _
          clear d0 ds d1 hw3 z0
          have zz : w3.cell? ⟨w.heap.size + 1 + 1, 0, none⟩ = some (.slice none 0 0) := D1.out.cells 0
          have ff := D1.out.frozen 0
          have zg : w3.cell? ⟨g0, j, none⟩ = some (.slice Ai0 xs.length ci0) := (bb3.cell (p := ⟨g0, j, none⟩) hg0).trans hc0
          clear hc0
          go_wp2_with fail
          refine (hB.out _).mono ?_
          rintro e w4 ⟨rfl, rfl⟩
          clear D0 DS D1
          go_wp2_with fail
          exact bodyPost_ret (v := .tuple #[.agg #[.slice none 0 0], .bool false]) (by simp [results, Try.results15, go_sem, zz]) rfl (by rw [hs.out]; exact ⟨none, 0, rfl, own_nil _ _, bb3.setCell (by show w.heap.size ≤ w.heap.size + 1 + 1; omega) _⟩)
        | true =>
          have hbt : 0 ≤ at' ∧ at' ≤ xs.length := by unfold btw at hb; simp at hb; omega
          obtain ⟨k, rfl⟩ := Int.eq_ofNat_of_zero_le hbt.1
          have hk : k ≤ xs.length := by omega
          rw [hb] at hB
          cases hst : okStep n s with
          | false =>
            have hs := Lib.hid (show putR p j k s = ([], false) by rw [HRES.out, hst]; simp)
            rw [show (s.1, s.2.1, s.2.2) = s from rfl, hst] at hS
            clear hb hD hst h8
            go_enter Try.func15, Try.ntmps15
            go_wp2_with fail
            refine (hF.out _ (hO.out.below (three_below n c _ s w)).rd (Nat.le_refl _)).mono ?_
            rintro e w1 ⟨rfl, b1⟩
            obtain ⟨d0, ds, d1, bb1, s1⟩ := three_facts b1
            have z0 : w1.cell? ⟨w.heap.size, 0, none⟩ = some (.slice (some ⟨g0, 0, none⟩) n c) := d0.cells 0
            clear b1
            go_wp2_with fail
            refine (hG.out _).mono ?_
            rintro e w3 ⟨rfl, hw3⟩
            have z3 : w3.cell? ⟨w.heap.size, 0, none⟩ = some (.slice (some ⟨g0, 0, none⟩) n c) := by rw [← hw3]; exact (d0.alloc _).cells 0
            have DS := Lib.hid (show Blk w3 (w.heap.size + 1) 34 #[.int .i64 s.1, .int .i64 s.2.1, .int .i64 s.2.2] by rw [← hw3]; exact ds.alloc _)
            have D0 := Lib.hid (show Blk w3 w.heap.size 30 #[.slice (some ⟨g0, 0, none⟩) n c] by rw [← hw3]; exact d0.alloc _)
            have D1 := Lib.hid (show Blk w3 (w.heap.size + 1 + 1) 30 #[.slice none 0 0] by rw [← hw3]; exact d1.alloc _)
            have bb3 : Below w.heap.size w w3 := by rw [← hw3]; exact bb1.alloc bb1.size _
            clear d0 ds d1 hw3 z0
            have zg : w3.cell? ⟨g0, j, none⟩ = some (.slice Ai0 xs.length ci0) := (bb3.cell (p := ⟨g0, j, none⟩) hg0).trans hc0
            clear hc0
            go_wp2_with fail
            refine (hB.out _).mono ?_
            rintro e w4 ⟨rfl, rfl⟩
            have y0 : w3.cell? ⟨w.heap.size + 1, 0, none⟩ = some (.int .i64 s.1) := DS.out.cells 0
            have y1 : w3.cell? ⟨w.heap.size + 1, 1, none⟩ = some (.int .i64 s.2.1) := DS.out.cells 1
            have y2 : w3.cell? ⟨w.heap.size + 1, 2, none⟩ = some (.int .i64 s.2.2) := DS.out.cells 2
            go_wp2_with fail
            refine (hS.out _).mono ?_
            rintro e w5 ⟨rfl, b5⟩
            have z5 : w5.cell? ⟨w.heap.size, 0, none⟩ = some (.slice (some ⟨g0, 0, none⟩) n c) := (D0.out.below b5 D0.out.lt).cells 0
            have E1 := Lib.hid (D1.out.below b5 D1.out.lt)
            have ES := Lib.hid (DS.out.below b5 DS.out.lt)
            have bb5 := bb3.trans (b5.mono bb3.size)
            clear D0 z3 zg y0 y1 y2 b5 D1 DS
            have zz : w5.cell? ⟨w.heap.size + 1 + 1, 0, none⟩ = some (.slice none 0 0) := E1.out.cells 0
            have ff := E1.out.frozen 0
            clear E1 ES
            go_wp2_with fail
            exact bodyPost_ret (v := .tuple #[.agg #[.slice none 0 0], .bool false]) (by simp [results, Try.results15, go_sem, zz]) rfl (by rw [hs.out]; exact ⟨none, 0, rfl, own_nil _ _, bb5.setCell (by show w.heap.size ≤ w.heap.size + 1 + 1; omega) _⟩)
          | true =>
            have hs := Lib.hid (show putR p j k s = (p.set j ((xs.map (moveS k 1)).take k ++ s :: (xs.map (moveS k 1)).drop k), true) by rw [HRES.out, hst, if_pos ⟨rfl, h8, hbt.1, hbt.2⟩, Int.toNat_natCast, putB_eq])
            rw [show (s.1, s.2.1, s.2.2) = s from rfl, hst] at hS
            have hD' := Lib.hid (hD.out k hk)
            clear hb hD hst h8
            go_enter Try.func15, Try.ntmps15
            go_wp2_with fail
            refine (hF.out _ (hO.out.below (three_below n c _ s w)).rd (Nat.le_refl _)).mono ?_
            rintro e w1 ⟨rfl, b1⟩
            obtain ⟨d0, ds, d1, bb1, s1⟩ := three_facts b1
            have z0 : w1.cell? ⟨w.heap.size, 0, none⟩ = some (.slice (some ⟨g0, 0, none⟩) n c) := d0.cells 0
            clear b1
            go_wp2_with fail
            refine (hG.out _).mono ?_
            rintro e w3 ⟨rfl, hw3⟩
            have z3 : w3.cell? ⟨w.heap.size, 0, none⟩ = some (.slice (some ⟨g0, 0, none⟩) n c) := by rw [← hw3]; exact (d0.alloc _).cells 0
            have DS := Lib.hid (show Blk w3 (w.heap.size + 1) 34 #[.int .i64 s.1, .int .i64 s.2.1, .int .i64 s.2.2] by rw [← hw3]; exact ds.alloc _)
            have D0 := Lib.hid (show Blk w3 w.heap.size 30 #[.slice (some ⟨g0, 0, none⟩) n c] by rw [← hw3]; exact d0.alloc _)
            have D1 := Lib.hid (show Blk w3 (w.heap.size + 1 + 1) 30 #[.slice none 0 0] by rw [← hw3]; exact d1.alloc _)
            have bb3 : Below w.heap.size w w3 := by rw [← hw3]; exact bb1.alloc bb1.size _
            clear d0 ds d1 hw3 z0
            have zg : w3.cell? ⟨g0, j, none⟩ = some (.slice Ai0 xs.length ci0) := (bb3.cell (p := ⟨g0, j, none⟩) hg0).trans hc0
            clear hc0
            go_wp2_with fail
            refine (hB.out _).mono ?_
            rintro e w4 ⟨rfl, rfl⟩
            have y0 : w3.cell? ⟨w.heap.size + 1, 0, none⟩ = some (.int .i64 s.1) := DS.out.cells 0
            have y1 : w3.cell? ⟨w.heap.size + 1, 1, none⟩ = some (.int .i64 s.2.1) := DS.out.cells 1
            have y2 : w3.cell? ⟨w.heap.size + 1, 2, none⟩ = some (.int .i64 s.2.2) := DS.out.cells 2
            go_wp2_with fail
            refine (hS.out _).mono ?_
            rintro e w5 ⟨rfl, b5⟩
            have z5 : w5.cell? ⟨w.heap.size, 0, none⟩ = some (.slice (some ⟨g0, 0, none⟩) n c) := (D0.out.below b5 D0.out.lt).cells 0
            have E1 := Lib.hid (D1.out.below b5 D1.out.lt)
            have ES := Lib.hid (DS.out.below b5 DS.out.lt)
            have bb5 := bb3.trans (b5.mono bb3.size)
            clear D0 z3 zg y0 y1 y2 b5 D1 DS
            have y0 : w5.cell? ⟨w.heap.size + 1, 0, none⟩ = some (.int .i64 s.1) := ES.out.cells 0
            have y1 : w5.cell? ⟨w.heap.size + 1, 1, none⟩ = some (.int .i64 s.2.1) := ES.out.cells 1
            have y2 : w5.cell? ⟨w.heap.size + 1, 2, none⟩ = some (.int .i64 s.2.2) := ES.out.cells 2
            go_wp2_with fail
            refine (hD'.out _ (hO.out.below bb5)).mono ?_
            rintro e w6 ⟨A6, c6, rfl, o6, b6⟩
            have D6 := E1.out.below b6 E1.out.lt
            have zz : w6.cell? ⟨w.heap.size + 1 + 1, 0, none⟩ = some (.slice none 0 0) := D6.cells 0
            have ff := D6.frozen 0
            have O6 := Lib.hid o6
            have bb6 := bb5.trans (b6.mono bb5.size)
            have s5 : w.heap.size + 3 ≤ w5.heap.size := by have := E1.out.lt; omega
            clear D6 E1 ES o6 b6 z5 y0 y1 y2
            go_wp2_with fail
            refine bodyPost_ret (v := .tuple #[.agg #[.slice A6 n c6], .bool true]) (by simp [results, Try.results15, go_sem, zz]) rfl ?_
            rw [hs.out]
            have hl : (p.set j ((xs.map (moveS k 1)).take k ++ s :: (xs.map (moveS k 1)).drop k)).length = n := by rw [List.length_set]; exact hL.out
            have o := OwnH.of O6.out
            have fin := ((o.keep (w' := w6.setCell ⟨w.heap.size + 1 + 1, 0, none⟩ (.slice A6 n c6)) (fun b h1 _ => Below.heap_setCell _ _ _ _ (by show b ≠ w.heap.size + 1 + 1; omega))).own.mono (show w.heap.size ≤ w5.heap.size by omega))
            exact ⟨_, _, by rw [hl], by rw [hl]; exact fin, bb6.setCell (by show w.heap.size ≤ w.heap.size + 1 + 1; omega) _⟩
end Go.Proofs.Ytgfjdfmmkomolaa.PutS2
