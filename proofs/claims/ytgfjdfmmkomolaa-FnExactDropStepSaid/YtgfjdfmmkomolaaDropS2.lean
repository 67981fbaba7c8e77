/- spec.DropStep: its tests ahead of l2Drop. -/
import Derived.Test.YtgfjdfmmkomolaaDropS
namespace Go.Proofs.Ytgfjdfmmkomolaa.DropS2
set_option linter.unusedVariables false
set_option linter.unusedSimpArgs false
open Go.ChangeShapes Go.WideShapes Go.ChangeAt Go.RowKit
open PL Mem To MarkP Res Prg PrgS StpS DeferP DeferW DelP MoveP SlotP DropI OwnS DropS

set_option maxHeartbeats 2000000 in
theorem specDrop_any (lo n c : Nat) (A : Option Addr) (p : Pg) (f at' : Int) (hn : n ≤ 2000000) (hl : p.length = n) (hsm : Small p 2000000) (w : World) (ho : OwnP w lo (.slice A n c) p) :
    Calls Try.prog 22 #[.agg #[.slice A n c], .int .i64 f, .int .i64 at'] w (ProgR (dropR p f at') w) := by
  have hF := Lib.hid (fun w hr hB => l2Program_any w.heap.size A n c p (by omega) hl (hsm.mono (by omega)) w hr hB)
  have hG := Lib.hid (fun w => l2Function_any A n c f (by omega) w)
  have hO := Lib.hid ho
  clear ho
  cases hok : okProg p with
  | false =>
    have hs := Lib.hid (show dropR p f at' = ([], false) by unfold dropR; rw [isFn_eq, hok]; rfl)
    rw [hok] at hF
    clear hok hl hsm hG
    go_enter Try.func22, Try.ntmps22
    go_wp2_with fail
    refine (hF.out _ (hO.out.below (two_below n c A w)).rd (Nat.le_refl _)).mono ?_
    rintro e w1 ⟨rfl, b1⟩
    obtain ⟨d0, d1, bb1, s1⟩ := two_facts b1
    have z0 : w1.cell? ⟨w.heap.size, 0, none⟩ = some (.slice A n c) := d0.cells 0
    have z1 : w1.cell? ⟨w.heap.size + 1, 0, none⟩ = some (.slice none 0 0) := d1.cells 0
    have f1 := d1.frozen 0
    clear d0 d1 b1
    go_wp2_with fail
    exact bodyPost_ret (v := .tuple #[.agg #[.slice none 0 0], .bool false]) (by simp [results, Try.results22, go_sem, z1]) rfl (by rw [hs.out]; exact ⟨none, 0, rfl, own_nil _ _, bb1.setCell (by show w.heap.size ≤ w.heap.size + 1; omega) _⟩)
  | true =>
    rw [hok] at hF
    cases hin : inP f n with
    | false =>
      have hs := Lib.hid (show dropR p f at' = ([], false) by unfold dropR; rw [isFn_eq, hok, hl, hin]; rfl)
      rw [hin] at hG
      clear hok hl hsm hin
      go_enter Try.func22, Try.ntmps22
      go_wp2_with fail
      refine (hF.out _ (hO.out.below (two_below n c A w)).rd (Nat.le_refl _)).mono ?_
      rintro e w1 ⟨rfl, b1⟩
      obtain ⟨d0, d1, bb1, s1⟩ := two_facts b1
      have z0 : w1.cell? ⟨w.heap.size, 0, none⟩ = some (.slice A n c) := d0.cells 0
      clear b1 d0
      go_wp2_with fail
      refine (hG.out _).mono ?_
      rintro e w3 ⟨rfl, hw3⟩
      have z1 : w3.cell? ⟨w.heap.size + 1, 0, none⟩ = some (.slice none 0 0) := by rw [← hw3]; exact (d1.alloc _).cells 0
      have f1 : w3.frozen? ⟨w.heap.size + 1, 0, none⟩ = false := by rw [← hw3]; exact (d1.alloc _).frozen 0
      have bb3 : Below w.heap.size w w3 := by rw [← hw3]; exact bb1.alloc bb1.size _
      clear d1 hw3
      go_wp2_with fail
      exact bodyPost_ret (v := .tuple #[.agg #[.slice none 0 0], .bool false]) (by simp [results, Try.results22, go_sem, z1]) rfl (by rw [hs.out]; exact ⟨none, 0, rfl, own_nil _ _, bb3.setCell (by show w.heap.size ≤ w.heap.size + 1; omega) _⟩)
    | true =>
      have hfn : isFn p f = true := by rw [isFn_eq, hok, hl, hin]; rfl
      obtain ⟨_, f0, fn, hx⟩ := isFn_parts hfn
      obtain ⟨j, rfl⟩ := Int.eq_ofNat_of_zero_le f0
      obtain ⟨_, hn6, hsm8⟩ := okProg_parts hok
      rw [Int.toNat_natCast] at hx
      have hxl := (hsm8 j _ hx).1
      have hjo := jumps_ok hok hx
      have hres : dropR p j at' = if btw at' 0 ((body p j).length - 1) then (p.set j ((dropAt (body p j) at'.toNat).map (moveS (at'.toNat + 1) (-1))), true) else ([], false) := by
        unfold dropR
        rw [hfn]
        by_cases h0 : 0 ≤ at'
        · by_cases h1 : at' < (body p j).length
          · rw [if_pos (by simp [h0, h1]), if_pos (by unfold btw; simp; omega)]; simp [dropB, dropAt]
          · rw [if_neg (by simp; omega), if_neg (by unfold btw; simp; omega)]
        · rw [if_neg (by simp; omega), if_neg (by unfold btw; simp; omega)]
      rw [hin] at hG
      generalize body p j = xs at *
      have hB := Lib.hid (fun w => l1In_any at' 0 ((xs.length : Int) - 1) w)
      have hD := Lib.hid (fun (k : Nat) (hk : k < xs.length) (W : World) (h : OwnP W lo (.slice A n c) p) => l2Drop_any lo n c A p j k xs hl (by omega) (fun i ys hy => (hsm8 i ys hy).1) hx hk hjo W h)
      obtain ⟨g0, Ai0, ci0, rfl, hc0⟩ : ∃ g Ai ci, A = some ⟨g, 0, none⟩ ∧ w.cell? ⟨g, j, none⟩ = some (.slice Ai xs.length ci) := by
        obtain ⟨g, Ai, ci, e, hc, _⟩ := (OwnH.of hO.out).row hx
        exact ⟨g, Ai, ci, e, hc⟩
      have hg0 : g0 < w.heap.size := World.block_lt_of_cell? w _ hc0
      have hjn : j < n := by omega
      have HRES := Lib.hid hres
      have hL := Lib.hid hl
      clear hfn hl hsm hok fn hn6 hsm8 hx f0 hin hres hjo
      cases hb : btw at' 0 ((xs.length : Int) - 1) with
      | false =>
        have hs := Lib.hid (show dropR p j at' = ([], false) by rw [HRES.out, hb]; rfl)
        rw [hb] at hB
        clear hb hD
        go_enter Try.func22, Try.ntmps22
        go_wp2_with fail
        refine (hF.out _ (hO.out.below (two_below n c _ w)).rd (Nat.le_refl _)).mono ?_
        rintro e w1 ⟨rfl, b1⟩
        obtain ⟨d0, d1, bb1, s1⟩ := two_facts b1
        have z0 : w1.cell? ⟨w.heap.size, 0, none⟩ = some (.slice (some ⟨g0, 0, none⟩) n c) := d0.cells 0
        clear b1
        go_wp2_with fail
        refine (hG.out _).mono ?_
        rintro e w3 ⟨rfl, hw3⟩
        have z0' : w3.cell? ⟨w.heap.size, 0, none⟩ = some (.slice (some ⟨g0, 0, none⟩) n c) := by rw [← hw3]; exact (d0.alloc _).cells 0
        have z1 : w3.cell? ⟨w.heap.size + 1, 0, none⟩ = some (.slice none 0 0) := by rw [← hw3]; exact (d1.alloc _).cells 0
        have f1 : w3.frozen? ⟨w.heap.size + 1, 0, none⟩ = false := by rw [← hw3]; exact (d1.alloc _).frozen 0
        have bb3 : Below w.heap.size w w3 := by rw [← hw3]; exact bb1.alloc bb1.size _
        have zg : w3.cell? ⟨g0, j, none⟩ = some (.slice Ai0 xs.length ci0) := (bb3.cell (p := ⟨g0, j, none⟩) hg0).trans hc0
        clear d1 d0 hw3 z0 hc0
        go_wp2_with fail
        refine (hB.out _).mono ?_
        rintro e w4 ⟨rfl, rfl⟩
        go_wp2_with fail
        exact bodyPost_ret (v := .tuple #[.agg #[.slice none 0 0], .bool false]) (by simp [results, Try.results22, go_sem, z1]) rfl (by rw [hs.out]; exact ⟨none, 0, rfl, own_nil _ _, bb3.setCell (by show w.heap.size ≤ w.heap.size + 1; omega) _⟩)
      | true =>
        have hbt : 0 ≤ at' ∧ at' < xs.length := by unfold btw at hb; simp at hb; omega
        obtain ⟨k, rfl⟩ := Int.eq_ofNat_of_zero_le hbt.1
        have hk : k < xs.length := by omega
        have hs := Lib.hid (show dropR p j k = (p.set j ((dropAt xs k).map (moveS (k + 1) (-1))), true) by rw [HRES.out, hb]; simp)
        rw [hb] at hB
        have hD' := Lib.hid (hD.out k hk)
        clear hb hD hbt
        go_enter Try.func22, Try.ntmps22
        go_wp2_with fail
        refine (hF.out _ (hO.out.below (two_below n c _ w)).rd (Nat.le_refl _)).mono ?_
        rintro e w1 ⟨rfl, b1⟩
        obtain ⟨d0, d1, bb1, s1⟩ := two_facts b1
        have z0 : w1.cell? ⟨w.heap.size, 0, none⟩ = some (.slice (some ⟨g0, 0, none⟩) n c) := d0.cells 0
        clear b1
        go_wp2_with fail
        refine (hG.out _).mono ?_
        rintro e w3 ⟨rfl, hw3⟩
        have z0' : w3.cell? ⟨w.heap.size, 0, none⟩ = some (.slice (some ⟨g0, 0, none⟩) n c) := by rw [← hw3]; exact (d0.alloc _).cells 0
        have D1 : Blk w3 (w.heap.size + 1) 30 #[.slice none 0 0] := by rw [← hw3]; exact d1.alloc _
        have bb3 : Below w.heap.size w w3 := by rw [← hw3]; exact bb1.alloc bb1.size _
        have zg : w3.cell? ⟨g0, j, none⟩ = some (.slice Ai0 xs.length ci0) := (bb3.cell (p := ⟨g0, j, none⟩) hg0).trans hc0
        clear d1 d0 hw3 z0 hc0
        go_wp2_with fail
        refine (hB.out _).mono ?_
        rintro e w4 ⟨rfl, rfl⟩
        go_wp2_with fail
        refine (hD'.out _ (hO.out.below bb3)).mono ?_
        rintro e w5 ⟨A5, c5, rfl, o5, b5⟩
        have D5 := D1.below b5 D1.lt
        have z1 : w5.cell? ⟨w.heap.size + 1, 0, none⟩ = some (.slice none 0 0) := D5.cells 0
        have f1 := D5.frozen 0
        have O5 := Lib.hid o5
        have bb5 := bb3.trans (b5.mono bb3.size)
        have s3 : w.heap.size + 2 ≤ w3.heap.size := by have := D1.lt; omega
        clear D1 D5 o5 b5 zg z0'
        go_wp2_with fail
        refine bodyPost_ret (v := .tuple #[.agg #[.slice A5 n c5], .bool true]) (by simp [results, Try.results22, go_sem, z1]) rfl ?_
        rw [hs.out]
        have hl : (p.set j ((dropAt xs k).map (moveS (k + 1) (-1)))).length = n := by rw [List.length_set]; exact hL.out
        have o := OwnH.of O5.out
        have fin := ((o.keep (w' := w5.setCell ⟨w.heap.size + 1, 0, none⟩ (.slice A5 n c5)) (fun b h1 _ => Below.heap_setCell _ _ _ _ (by show b ≠ w.heap.size + 1; omega))).own.mono (show w.heap.size ≤ w3.heap.size by omega))
        exact ⟨_, _, by rw [hl], by rw [hl]; exact fin, bb5.setCell (by show w.heap.size ≤ w.heap.size + 1; omega) _⟩
end Go.Proofs.Ytgfjdfmmkomolaa.DropS2
