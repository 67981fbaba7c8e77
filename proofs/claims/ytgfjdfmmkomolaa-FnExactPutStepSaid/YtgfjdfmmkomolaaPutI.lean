/- impl.PutStep: the program with one more step. -/
import Derived.Test.YtgfjdfmmkomolaaIns
namespace Go.Proofs.Ytgfjdfmmkomolaa.PutI
set_option linter.unusedVariables false
set_option linter.unusedSimpArgs false
open Go.ChangeShapes Go.WideShapes Go.ChangeAt Go.RowKit
open PL Mem To MarkP Res Prg PrgS StpS DeferP DeferW DelP MoveP SlotP DropI InsP

def three (n c : Nat) (A : Option Addr) (s : Tr) (w : World) : World := ((w.alloc (.cells #[.slice A n c] 30)).alloc (.cells #[.int .i64 s.1, .int .i64 s.2.1, .int .i64 s.2.2] 34)).alloc (.cells #[.slice none 0 0] 30)
theorem three_facts {n c : Nat} {A : Option Addr} {s : Tr} {w w1 : World} (b : Below (three n c A s w).heap.size (three n c A s w) w1) :
    Blk w1 w.heap.size 30 #[.slice A n c] ∧ Blk w1 (w.heap.size + 1) 34 #[.int .i64 s.1, .int .i64 s.2.1, .int .i64 s.2.2] ∧ Blk w1 (w.heap.size + 1 + 1) 30 #[.slice none 0 0] ∧ Below w.heap.size w w1 ∧ w.heap.size + 3 ≤ w1.heap.size := by
  have h2 : Below w.heap.size w (three n c A s w) := (((Below.refl _ _).alloc (Nat.le_refl _) _).alloc (by simp) _).alloc (by simp; omega) _
  have hs : (three n c A s w).heap.size = w.heap.size + 1 + 1 + 1 := by simp [three]
  exact ⟨Blk.below (heap3_0 _ _ _ _) b (by rw [hs]; omega), Blk.below (heap3_1 _ _ _ _) b (by rw [hs]; omega), Blk.below (heap3_2 _ _ _ _) b (by rw [hs]; omega), h2.trans (b.mono (by omega)), by have := b.size; omega⟩
theorem three_below (n c : Nat) (A : Option Addr) (s : Tr) (w : World) : Below w.heap.size w (three n c A s w) := (((Below.refl _ _).alloc (Nat.le_refl _) _).alloc (by simp) _).alloc (by simp; omega) _
theorem putB_eq (xs : List Tr) (k : Nat) (s : Tr) : putB xs k s = (xs.map (moveS k 1)).take k ++ s :: (xs.map (moveS k 1)).drop k := by unfold putB; rw [List.map_take, List.map_drop]
set_option maxHeartbeats 1000000 in
set_option maxRecDepth 100000 in
theorem implPut_any (lo n c : Nat) (A : Option Addr) (p : Pg) (f at' : Int) (s : Tr) (hn : n ≤ 2000000) (hl : p.length = n) (hsm : Small p 2000000) (w : World) (ho : OwnP w lo (.slice A n c) p) :
    Calls Try.prog 18 #[.agg #[.slice A n c], .int .i64 f, .int .i64 at', .agg #[.int .i64 s.1, .int .i64 s.2.1, .int .i64 s.2.2]] w (ProgR (putR p f at' s) w) := by
  have hF := Lib.hid (fun w hr hB => isFunction_any w.heap.size A n c p f (by omega) hl (hsm.mono (by omega)) w hr hB)
  have hG := Lib.hid (fun w => Stp.isStep_any s.1 s.2.1 s.2.2 n (by omega) w)
  have hO := Lib.hid ho
  clear ho
  cases hfn : isFn p f with
  | false =>
    have hs := Lib.hid (show putR p f at' s = ([], false) by unfold putR; rw [hfn]; rfl)
    rw [hfn] at hF
    clear hfn hl hsm hG
    go_enter Try.func18, Try.ntmps18
    go_wp2_with fail
    refine (hF.out _ (hO.out.below (three_below n c _ s w)).rd (Nat.le_refl _)).mono ?_
    rintro e w1 ⟨rfl, b1⟩
    obtain ⟨d0, ds, d1, bb1, s1⟩ := three_facts b1
    have z0 : w1.cell? ⟨w.heap.size, 0, none⟩ = some (.slice A n c) := d0.cells 0
    have z1 : w1.cell? ⟨w.heap.size + 1 + 1, 0, none⟩ = some (.slice none 0 0) := d1.cells 0
    have f1 := d1.frozen 0
    clear d0 d1 ds b1
    go_wp2_with fail
    exact bodyPost_ret (v := .tuple #[.agg #[.slice none 0 0], .bool false]) (by simp [results, Try.results18, go_sem, z1]) rfl (by rw [hs.out]; exact ⟨none, 0, rfl, own_nil _ _, bb1.setCell (by show w.heap.size ≤ w.heap.size + 1 + 1; omega) _⟩)
  | true =>
    rw [hfn] at hF
    obtain ⟨hok, f0, fn, hx⟩ := isFn_parts hfn
    obtain ⟨j, rfl⟩ := Int.eq_ofNat_of_zero_le f0
    obtain ⟨_, hn6, hsm8⟩ := okProg_parts hok
    have hC := Lib.hid (fun (W : World) (h : OwnP W lo (.slice A n c) p) => CopyP.copyProgram_any lo n c A p (by omega) hl (fun i xs h => Nat.le_trans (hsm8 i xs h).1 (by omega)) W h)
    rw [Int.toNat_natCast] at hx
    have hxl := (hsm8 j _ hx).1
    have hjo := jumps_ok hok hx
    have hres : putR p j at' s = if okStep n s ∧ (body p j).length ≠ 8 ∧ 0 ≤ at' ∧ at' ≤ (body p j).length then (p.set j (putB (body p j) at'.toNat s), true) else ([], false) := by
      unfold putR
      rw [hfn, hl]
      simp [and_assoc]
    generalize body p j = xs at *
    have HX := Lib.hid hx
    have hjn : j < n := by omega
    have hL := Lib.hid hl
    have HRES := Lib.hid hres
    clear hfn hl hsm hok fn hn6 hsm8 f0 hres
    obtain ⟨g0, Ai0, ci0, rfl, hc0⟩ : ∃ g Ai ci, A = some ⟨g, 0, none⟩ ∧ w.cell? ⟨g, j, none⟩ = some (.slice Ai xs.length ci) := by
      obtain ⟨g, Ai, ci, e, hc, _⟩ := (OwnH.of hO.out).row hx
      exact ⟨g, Ai, ci, e, hc⟩
    have hg0 : g0 < w.heap.size := World.block_lt_of_cell? w _ hc0
    clear hx
    cases hst : okStep n s with
    | false =>
      have hs := Lib.hid (show putR p j at' s = ([], false) by rw [HRES.out, hst]; simp)
      rw [show (s.1, s.2.1, s.2.2) = s from rfl, hst] at hG
      clear hst hc0
      go_enter Try.func18, Try.ntmps18
      go_wp2_with fail
      refine (hF.out _ (hO.out.below (three_below n c _ s w)).rd (Nat.le_refl _)).mono ?_
      rintro e w1 ⟨rfl, b1⟩
      obtain ⟨d0, ds, d1, bb1, s1⟩ := three_facts b1
      have z0 : w1.cell? ⟨w.heap.size, 0, none⟩ = some (.slice (some ⟨g0, 0, none⟩) n c) := d0.cells 0
      have y0 : w1.cell? ⟨w.heap.size + 1, 0, none⟩ = some (.int .i64 s.1) := ds.cells 0
      have y1 : w1.cell? ⟨w.heap.size + 1, 1, none⟩ = some (.int .i64 s.2.1) := ds.cells 1
      have y2 : w1.cell? ⟨w.heap.size + 1, 2, none⟩ = some (.int .i64 s.2.2) := ds.cells 2
      clear b1
      go_wp2_with fail
      refine (hG.out _).mono ?_
      rintro e w2 ⟨rfl, b2⟩
      have z0' : w2.cell? ⟨w.heap.size, 0, none⟩ = some (.slice (some ⟨g0, 0, none⟩) n c) := (d0.below b2 d0.lt).cells 0
      have z1 : w2.cell? ⟨w.heap.size + 1 + 1, 0, none⟩ = some (.slice none 0 0) := (d1.below b2 d1.lt).cells 0
      have f1 := (d1.below b2 d1.lt).frozen 0
      have bb2 := bb1.trans (b2.mono bb1.size)
      clear d0 d1 ds b2 z0 y0 y1 y2
      go_wp2_with fail
      exact bodyPost_ret (v := .tuple #[.agg #[.slice none 0 0], .bool false]) (by simp [results, Try.results18, go_sem, z1]) rfl (by rw [hs.out]; exact ⟨none, 0, rfl, own_nil _ _, bb2.setCell (by show w.heap.size ≤ w.heap.size + 1 + 1; omega) _⟩)
    | true =>
      rw [show (s.1, s.2.1, s.2.2) = s from rfl, hst] at hG
      by_cases h8 : xs.length = 8
      · have hs := Lib.hid (show putR p j at' s = ([], false) by rw [HRES.out, if_neg (fun h => h.2.1 h8)])
        rw [h8] at hc0
        clear hst
        go_enter Try.func18, Try.ntmps18
        go_wp2_with fail
        refine (hF.out _ (hO.out.below (three_below n c _ s w)).rd (Nat.le_refl _)).mono ?_
        rintro e w1 ⟨rfl, b1⟩
        obtain ⟨d0, ds, d1, bb1, s1⟩ := three_facts b1
        have z0 : w1.cell? ⟨w.heap.size, 0, none⟩ = some (.slice (some ⟨g0, 0, none⟩) n c) := d0.cells 0
        have y0 : w1.cell? ⟨w.heap.size + 1, 0, none⟩ = some (.int .i64 s.1) := ds.cells 0
        have y1 : w1.cell? ⟨w.heap.size + 1, 1, none⟩ = some (.int .i64 s.2.1) := ds.cells 1
        have y2 : w1.cell? ⟨w.heap.size + 1, 2, none⟩ = some (.int .i64 s.2.2) := ds.cells 2
        clear b1
        go_wp2_with fail
        refine (hG.out _).mono ?_
        rintro e w2 ⟨rfl, b2⟩
        have z0' : w2.cell? ⟨w.heap.size, 0, none⟩ = some (.slice (some ⟨g0, 0, none⟩) n c) := (d0.below b2 d0.lt).cells 0
        have z1 : w2.cell? ⟨w.heap.size + 1 + 1, 0, none⟩ = some (.slice none 0 0) := (d1.below b2 d1.lt).cells 0
        have f1 := (d1.below b2 d1.lt).frozen 0
        have bb2 := bb1.trans (b2.mono bb1.size)
        have zg : w2.cell? ⟨g0, j, none⟩ = some (.slice Ai0 8 ci0) := (bb2.cell (p := ⟨g0, j, none⟩) hg0).trans hc0
        clear d0 d1 ds b2 z0 y0 y1 y2 hc0
        go_wp2_with fail
        exact bodyPost_ret (v := .tuple #[.agg #[.slice none 0 0], .bool false]) (by simp [results, Try.results18, go_sem, z1]) rfl (by rw [hs.out]; exact ⟨none, 0, rfl, own_nil _ _, bb2.setCell (by show w.heap.size ≤ w.heap.size + 1 + 1; omega) _⟩)
      · have h8' : ((xs.length : Int) == 8) = false := by simp; omega
        by_cases a0 : at' < 0
        · have hs := Lib.hid (show putR p j at' s = ([], false) by rw [HRES.out, if_neg (fun h => by omega)])
          clear hst h8
          go_enter Try.func18, Try.ntmps18
          go_wp2_with fail
          refine (hF.out _ (hO.out.below (three_below n c _ s w)).rd (Nat.le_refl _)).mono ?_
          rintro e w1 ⟨rfl, b1⟩
          obtain ⟨d0, ds, d1, bb1, s1⟩ := three_facts b1
          have z0 : w1.cell? ⟨w.heap.size, 0, none⟩ = some (.slice (some ⟨g0, 0, none⟩) n c) := d0.cells 0
          have y0 : w1.cell? ⟨w.heap.size + 1, 0, none⟩ = some (.int .i64 s.1) := ds.cells 0
          have y1 : w1.cell? ⟨w.heap.size + 1, 1, none⟩ = some (.int .i64 s.2.1) := ds.cells 1
          have y2 : w1.cell? ⟨w.heap.size + 1, 2, none⟩ = some (.int .i64 s.2.2) := ds.cells 2
          clear b1
          go_wp2_with fail
          refine (hG.out _).mono ?_
          rintro e w2 ⟨rfl, b2⟩
          have z0' : w2.cell? ⟨w.heap.size, 0, none⟩ = some (.slice (some ⟨g0, 0, none⟩) n c) := (d0.below b2 d0.lt).cells 0
          have z1 : w2.cell? ⟨w.heap.size + 1 + 1, 0, none⟩ = some (.slice none 0 0) := (d1.below b2 d1.lt).cells 0
          have f1 := (d1.below b2 d1.lt).frozen 0
          have bb2 := bb1.trans (b2.mono bb1.size)
          have zg : w2.cell? ⟨g0, j, none⟩ = some (.slice Ai0 xs.length ci0) := (bb2.cell (p := ⟨g0, j, none⟩) hg0).trans hc0
          clear d0 d1 ds b2 z0 y0 y1 y2 hc0
          go_wp2_with fail
          exact bodyPost_ret (v := .tuple #[.agg #[.slice none 0 0], .bool false]) (by simp [results, Try.results18, go_sem, z1]) rfl (by rw [hs.out]; exact ⟨none, 0, rfl, own_nil _ _, bb2.setCell (by show w.heap.size ≤ w.heap.size + 1 + 1; omega) _⟩)
        · by_cases a1 : (xs.length : Int) < at'
          · have hs := Lib.hid (show putR p j at' s = ([], false) by rw [HRES.out, if_neg (fun h => by omega)])
            clear hst h8
            go_enter Try.func18, Try.ntmps18
            go_wp2_with fail
            refine (hF.out _ (hO.out.below (three_below n c _ s w)).rd (Nat.le_refl _)).mono ?_
            rintro e w1 ⟨rfl, b1⟩
            obtain ⟨d0, ds, d1, bb1, s1⟩ := three_facts b1
            have z0 : w1.cell? ⟨w.heap.size, 0, none⟩ = some (.slice (some ⟨g0, 0, none⟩) n c) := d0.cells 0
            have y0 : w1.cell? ⟨w.heap.size + 1, 0, none⟩ = some (.int .i64 s.1) := ds.cells 0
            have y1 : w1.cell? ⟨w.heap.size + 1, 1, none⟩ = some (.int .i64 s.2.1) := ds.cells 1
            have y2 : w1.cell? ⟨w.heap.size + 1, 2, none⟩ = some (.int .i64 s.2.2) := ds.cells 2
            clear b1
            go_wp2_with fail
            refine (hG.out _).mono ?_
            rintro e w2 ⟨rfl, b2⟩
            have z0' : w2.cell? ⟨w.heap.size, 0, none⟩ = some (.slice (some ⟨g0, 0, none⟩) n c) := (d0.below b2 d0.lt).cells 0
            have z1 : w2.cell? ⟨w.heap.size + 1 + 1, 0, none⟩ = some (.slice none 0 0) := (d1.below b2 d1.lt).cells 0
            have f1 := (d1.below b2 d1.lt).frozen 0
            have bb2 := bb1.trans (b2.mono bb1.size)
            have zg : w2.cell? ⟨g0, j, none⟩ = some (.slice Ai0 xs.length ci0) := (bb2.cell (p := ⟨g0, j, none⟩) hg0).trans hc0
            clear d0 d1 ds b2 z0 y0 y1 y2 hc0
            go_wp2_with fail
            exact bodyPost_ret (v := .tuple #[.agg #[.slice none 0 0], .bool false]) (by simp [results, Try.results18, go_sem, z1]) rfl (by rw [hs.out]; exact ⟨none, 0, rfl, own_nil _ _, bb2.setCell (by show w.heap.size ≤ w.heap.size + 1 + 1; omega) _⟩)
          · obtain ⟨k, rfl⟩ := Int.eq_ofNat_of_zero_le (show 0 ≤ at' by omega)
            have hkl : k ≤ xs.length := by omega
            have hs := Lib.hid (show putR p j k s = (p.set j ((xs.map (moveS k 1)).take k ++ s :: (xs.map (moveS k 1)).drop k), true) by rw [HRES.out, if_pos ⟨hst, h8, by omega, by omega⟩, Int.toNat_natCast, putB_eq])
            clear hst h8
            go_enter Try.func18, Try.ntmps18
            go_wp2_with fail
            refine (hF.out _ (hO.out.below (three_below n c _ s w)).rd (Nat.le_refl _)).mono ?_
            rintro e w1 ⟨rfl, b1⟩
            obtain ⟨d0, ds, d1, bb1, s1⟩ := three_facts b1
            have z0 : w1.cell? ⟨w.heap.size, 0, none⟩ = some (.slice (some ⟨g0, 0, none⟩) n c) := d0.cells 0
            have y0 : w1.cell? ⟨w.heap.size + 1, 0, none⟩ = some (.int .i64 s.1) := ds.cells 0
            have y1 : w1.cell? ⟨w.heap.size + 1, 1, none⟩ = some (.int .i64 s.2.1) := ds.cells 1
            have y2 : w1.cell? ⟨w.heap.size + 1, 2, none⟩ = some (.int .i64 s.2.2) := ds.cells 2
            clear b1
            go_wp2_with fail
            refine (hG.out _).mono ?_
            rintro e w2 ⟨rfl, b2⟩
            have z0' : w2.cell? ⟨w.heap.size, 0, none⟩ = some (.slice (some ⟨g0, 0, none⟩) n c) := (d0.below b2 d0.lt).cells 0
            have bb2 := bb1.trans (b2.mono bb1.size)
            have s2 := b2.size
            have zg : w2.cell? ⟨g0, j, none⟩ = some (.slice Ai0 xs.length ci0) := (bb2.cell (p := ⟨g0, j, none⟩) hg0).trans hc0
            have D2 := Lib.hid (d1.below b2 d1.lt)
            have DS2 := Lib.hid (ds.below b2 ds.lt)
            clear d0 d1 ds b2 z0 y0 y1 y2 hc0 bb1
            go_wp2_with fail
            refine (hC.out _ (hO.out.below bb2)).mono ?_
            rintro e w3 ⟨A2, c2, rfl, o3, b3⟩
            have s3 := b3.size
            have D3 := Lib.hid (D2.out.below b3 D2.out.lt)
            have DS3 := Lib.hid (DS2.out.below b3 DS2.out.lt)
            have bb3 := Lib.hid (bb2.trans (b3.mono bb2.size))
            obtain ⟨g, Ai, ci, rfl, hlg, hgl, hc2, hf2, hrow, hbd, hne, hslot⟩ := OwnH_slot (OwnH.of o3) HX.out
            obtain ⟨g', Ai', ci', e', hc2', hrow', hbd', hput⟩ := (OwnH.of o3).row HX.out
            obtain rfl : g = g' := by simpa using e'
            rw [hc2] at hc2'
            simp only [Option.some.injEq, Value.slice.injEq, true_and] at hc2'
            obtain ⟨rfl, rfl⟩ := hc2'
            have HP := Lib.hid hput
            have HB := Lib.hid hbd
            have HR := Lib.hid hrow
            have HC2 := Lib.hid hc2
            have x2 : ∀ o, (w3.alloc o).cell? ⟨g, j, none⟩ = some (.slice Ai xs.length ci) := fun o => (((Below.refl _ _).alloc (Nat.le_refl _) o).cell (p := ⟨g, j, none⟩) hgl).trans HC2.out
            clear hrow hrow' hbd hbd' hput hc2 hf2 hslot o3 e' zg z0' bb2 D2 DS2 b3
            go_wp2_with fail
            obtain ⟨W4, hW4⟩ : ∃ W4, w3.alloc (.cells #[.slice (some ⟨g, 0, none⟩) n c2] 30) = W4 := ⟨_, rfl⟩
            have b4 : Below w3.heap.size w3 W4 := by rw [← hW4]; exact (Below.refl _ _).alloc (Nat.le_refl _) _
            have B4 : Blk W4 w3.heap.size 30 #[.slice (some ⟨g, 0, none⟩) n c2] := by rw [← hW4]; exact blk_new _ _ _
            have HW := Lib.hid hW4
            have R4 := Lib.hid (own_below HR.out b4 (Nat.le_refl _))
            have hm := Lib.hid (fun V (h : V.ownsRow w2.heap.size 34 3 (.slice Ai xs.length ci) xs.length (cells3 xs)) => move_any w2.heap.size xs.length ci Ai xs k 1 (by omega) rfl hjo ⟨by omega, by omega⟩ V h)
            have x1 : W4.cell? ⟨w3.heap.size, 0, none⟩ = some (.slice (some ⟨g, 0, none⟩) n c2) := B4.cells 0
            have x2' : W4.cell? ⟨g, j, none⟩ = some (.slice Ai xs.length ci) := (b4.cell (p := ⟨g, j, none⟩) hgl).trans HC2.out
            have C4 := Lib.hid (Chg.of_below (C := fun b => (Value.slice Ai xs.length ci).ownBlock = some b) b4)
            have B4' := Lib.hid B4
            have D4 := Lib.hid (D3.out.below b4 D3.out.lt)
            have DS4 := Lib.hid (DS3.out.below b4 DS3.out.lt)
            have s4 := B4.lt
            clear hW4 b4 B4
            rw [HW.out]
            clear x2
            refine (hm.out W4 R4.out).mono ?_
            rintro e w5 ⟨rfl, o5, c5⟩
            have c35 : Chg (fun b => (Value.slice Ai xs.length ci).ownBlock = some b) w3 w5 := C4.out.trans c5 (fun _ _ h => h)
            have o5P := HP.out w5 (xs.map (moveS k 1)) (by rw [List.length_map]) o5 c35
            have bb5 : Below w.heap.size w w5 := bb3.out.trans (c35.below bb3.out.size (fun x hx hx' => by have := (HB.out x hx').1; omega))
            have B5 := B4'.out.chg c5 (App.own_blk_ne R4.out B4'.out (by decide))
            have D5 := Lib.hid (D4.out.chg c5 (App.own_blk_ne R4.out D4.out (by decide)))
            have s5 := c5.size
            have hdsn : (Value.slice Ai xs.length ci).ownBlock ≠ some (w.heap.size + 1) := fun e => by have := (HB.out _ e).1; omega
            have DS5 := Lib.hid (DS4.out.chg c5 hdsn)
            have hlm : (xs.map (moveS k 1)).length = xs.length := by rw [List.length_map]
            have xset : (p.set j (xs.map (moveS k 1)))[j]? = some (xs.map (moveS k 1)) := by rw [List.getElem?_set_self (by rw [hL.out]; exact hjn)]
            obtain ⟨g', Ai', ci', e', hlg5, hgl5, hc5, hf5, hrow5, hbd5, hne5, hslot5⟩ := OwnH_slot (OwnH.of o5P.own) xset
            obtain rfl : g = g' := by simpa using e'
            have y2 : w5.cell? ⟨g, j, none⟩ = some (.slice Ai xs.length ci) := (c5.cell (p := ⟨g, j, none⟩) (by show g < W4.heap.size; omega) hne).trans x2'
            rw [hc5] at y2
            simp only [Option.some.injEq, Value.slice.injEq] at y2
            obtain ⟨ha9, hz9, hc9⟩ := y2
            obtain rfl : Ai = Ai' := ha9.symm
            obtain rfl : ci = ci' := hc9.symm
            clear ha9 hc9
            rw [hlm] at hc5 hf5 hrow5 hbd5 hne5 hslot5
            have y1 : w5.cell? ⟨w3.heap.size, 0, none⟩ = some (.slice (some ⟨g, 0, none⟩) n c2) := B5.cells 0
            have q0 : w5.cell? ⟨w.heap.size + 1, 0, none⟩ = some (.int .i64 s.1) := DS5.out.cells 0
            have q1 : w5.cell? ⟨w.heap.size + 1, 1, none⟩ = some (.int .i64 s.2.1) := DS5.out.cells 1
            have q2 : w5.cell? ⟨w.heap.size + 1, 2, none⟩ = some (.int .i64 s.2.2) := DS5.out.cells 2
            have HS5 := Lib.hid hslot5
            have HF5 := Lib.hid hf5
            have HR5 := Lib.hid hrow5
            have HB5 := Lib.hid hbd5
            have B5' := Lib.hid B5
            have hLM := Lib.hid hlm
            have hj0 : (0 : Int) ≤ (j : Int) := by omega
            have hj1 : (j : Int) < (n : Int) := by omega
            clear x1 x2' o5 c5 c35 o5P B5 hz9 hslot5 hf5 hrow5 hbd5 hlm e' xset hm a1 a0
            go_wp2_with fail
            have S0 : (fun V : World => V.cell? ⟨w3.heap.size, 0, none⟩ = some (.slice (some ⟨g, 0, none⟩) n c2) ∧ V.cell? ⟨g, j, none⟩ = some (.slice Ai xs.length ci) ∧ V.cell? ⟨w.heap.size + 1, 0, none⟩ = some (.int .i64 s.1) ∧ V.cell? ⟨w.heap.size + 1, 1, none⟩ = some (.int .i64 s.2.1) ∧ V.cell? ⟨w.heap.size + 1, 2, none⟩ = some (.int .i64 s.2.2)) w5.drew := ⟨y1, hc5, q0, q1, q2⟩
            have hSk := Lib.hid (fun (V : World) (h : App.Bl w5 V) => (show (fun V : World => V.cell? ⟨w3.heap.size, 0, none⟩ = some (.slice (some ⟨g, 0, none⟩) n c2) ∧ V.cell? ⟨g, j, none⟩ = some (.slice Ai xs.length ci) ∧ V.cell? ⟨w.heap.size + 1, 0, none⟩ = some (.int .i64 s.1) ∧ V.cell? ⟨w.heap.size + 1, 1, none⟩ = some (.int .i64 s.2.1) ∧ V.cell? ⟨w.heap.size + 1, 2, none⟩ = some (.int .i64 s.2.2)) V from
              ⟨(Below.cell h (show w3.heap.size < w5.heap.size by omega)).trans y1, (Below.cell h (show g < w5.heap.size by omega)).trans hc5, (Below.cell h (show w.heap.size + 1 < w5.heap.size by omega)).trans q0, (Below.cell h (show w.heap.size + 1 < w5.heap.size by omega)).trans q1, (Below.cell h (show w.heap.size + 1 < w5.heap.size by omega)).trans q2⟩))
            refine Last.region_last 13 (fun V : World => V.cell? ⟨w3.heap.size, 0, none⟩ = some (.slice (some ⟨g, 0, none⟩) n c2) ∧ V.cell? ⟨g, j, none⟩ = some (.slice Ai xs.length ci) ∧ V.cell? ⟨w.heap.size + 1, 0, none⟩ = some (.int .i64 s.1) ∧ V.cell? ⟨w.heap.size + 1, 1, none⟩ = some (.int .i64 s.2.1) ∧ V.cell? ⟨w.heap.size + 1, 2, none⟩ = some (.int .i64 s.2.2)) (by kernel_rfl) ?_
            refine Last.last_take (i := 0) (d := some 52) (v := ?v0) rfl rfl (by kernel_rfl) (by kernel_rfl) (by kernel_rfl) (fun _ _ _ h => h) rfl (by kernel_rfl) (by kernel_rfl) rfl ?y0 S0 ?r0
            case y0 => (intro V hV; (try dsimp only at hV); go_simp; try with_reducible rfl)
            simp only [Act.put, List.setIfInBounds_toArray, List.set_cons_zero, List.set_cons_succ]
            refine Last.last_take (i := 1) (d := some 53) (v := ?v1) rfl rfl (by kernel_rfl) (by kernel_rfl) (by kernel_rfl) (fun _ _ _ h => h) rfl (by kernel_rfl) (by kernel_rfl) rfl ?y1 S0 ?r1
            case y1 => (intro V hV; (try dsimp only at hV); go_simp; try with_reducible rfl)
            simp only [Act.put, List.setIfInBounds_toArray, List.set_cons_zero, List.set_cons_succ]
            refine Last.last_take (i := 2) (d := some 54) (v := ?v2) rfl rfl (by kernel_rfl) (by kernel_rfl) (by kernel_rfl) (fun _ _ _ h => h) rfl (by kernel_rfl) (by kernel_rfl) rfl ?y2 S0 ?r2
            case y2 => (intro V hV; (try dsimp only at hV); go_simp; try with_reducible rfl)
            simp only [Act.put, List.setIfInBounds_toArray, List.set_cons_zero, List.set_cons_succ]
            refine Last.last_take (i := 3) (d := some 55) (v := ?v3) rfl rfl (by kernel_rfl) (by kernel_rfl) (by kernel_rfl) (fun _ _ _ h => h) rfl (by kernel_rfl) (by kernel_rfl) rfl ?y3 S0 ?r3
            case y3 => (intro V hV; (try dsimp only at hV); go_simp; try with_reducible rfl)
            simp only [Act.put, List.setIfInBounds_toArray, List.set_cons_zero, List.set_cons_succ]
            refine Last.last_take (i := 4) (d := some 56) (v := ?v4) rfl rfl (by kernel_rfl) (by kernel_rfl) (by kernel_rfl) (fun _ _ _ h => h) rfl (by kernel_rfl) (by kernel_rfl) rfl ?y4 S0 ?r4
            case y4 => (intro V hV; (try dsimp only at hV); go_simp; try with_reducible rfl)
            simp only [Act.put, List.setIfInBounds_toArray, List.set_cons_zero, List.set_cons_succ]
            refine Last.last_take (i := 5) (d := some 57) (v := ?v5) rfl rfl (by kernel_rfl) (by kernel_rfl) (by kernel_rfl) (fun _ _ _ h => h) rfl (by kernel_rfl) (by kernel_rfl) rfl ?y5 S0 ?r5
            case y5 => (intro V hV; (try dsimp only at hV); go_simp; try with_reducible rfl)
            simp only [Act.put, List.setIfInBounds_toArray, List.set_cons_zero, List.set_cons_succ]
            refine Last.last_take (i := 6) (d := some 58) (v := ?v6) rfl rfl (by kernel_rfl) (by kernel_rfl) (by kernel_rfl) (fun _ _ _ h => h) rfl (by kernel_rfl) (by kernel_rfl) rfl ?y6 S0 ?r6
            case y6 => (intro V hV; (try dsimp only at hV); go_simp; try with_reducible rfl)
            simp only [Act.put, List.setIfInBounds_toArray, List.set_cons_zero, List.set_cons_succ]
            refine Last.last_take (i := 7) (d := some 59) (v := ?v7) rfl rfl (by kernel_rfl) (by kernel_rfl) (by kernel_rfl) (fun _ _ _ h => h) rfl (by kernel_rfl) (by kernel_rfl) rfl ?y7 S0 ?r7
            case y7 => (intro V hV; (try dsimp only at hV); go_simp; try with_reducible rfl)
            simp only [Act.put, List.setIfInBounds_toArray, List.set_cons_zero, List.set_cons_succ]
            refine Last.last_take (i := 8) (d := some 60) (v := ?v8) rfl rfl (by kernel_rfl) (by kernel_rfl) (by kernel_rfl) (fun _ _ _ h => h) rfl (by kernel_rfl) (by kernel_rfl) rfl ?y8 S0 ?r8
            case y8 => (intro V hV; (try dsimp only at hV); go_simp; try with_reducible rfl)
            simp only [Act.put, List.setIfInBounds_toArray, List.set_cons_zero, List.set_cons_succ]
            refine Last.last_take (i := 9) (d := some 61) (v := ?v9) rfl rfl (by kernel_rfl) (by kernel_rfl) (by kernel_rfl) (fun _ _ _ h => h) rfl (by kernel_rfl) (by kernel_rfl) rfl ?y9 S0 ?r9
            case y9 => (intro V hV; (try dsimp only at hV); go_simp; try with_reducible rfl)
            simp only [Act.put, List.setIfInBounds_toArray, List.set_cons_zero, List.set_cons_succ]
            refine Last.last_one (i := 10) (o := { dst := some 62, op := .buildSlice 66 1 #[(0, .tmp 61)], type := 66, pos := _, after := _, guard := none }) (by kernel_rfl) rfl rfl (fun K hK => ?_)
            go_simp
            refine hK.out _ _ (fun _ => hSk.out _ ((App.Bl.refl w5).alloc _).drew) ?_
            clear hK K S0
            refine Last.last_one (i := 11) (o := { dst := some 63, op := .call { callee := .value (.func 59), args := #[.tmp 59, .tmp 60, .tmp 62], argTypes := #[66, 3, 66] }, type := 66, pos := _, after := _, guard := none }) (by kernel_rfl) rfl rfl (fun K hK => ?_)
            go_simp
            have hins := insert_any w2.heap.size xs.length ci w5.heap.size Ai (xs.map (moveS k 1)) k s (by omega) hLM.out hkl (w5.alloc (.cells #[.int .i64 s.1, .int .i64 s.2.1, .int .i64 s.2.2] 34)).drew (by simp; omega) (own_below HR5.out ((App.Bl.refl w5).alloc _).drew (Nat.le_refl _)) (heap1_0 w5 _) (fun e => by have := (HR5.out.lt _ e).2; omega)
            refine hins.mono ?_
            rintro e w6 ⟨A6, c6', rfl, o6, t6, c6⟩
            have c56 : Chg (fun b => (Value.slice Ai xs.length ci).ownBlock = some b) w5 w6 := (Chg.of_below (((App.Bl.refl w5).alloc _).drew)).trans c6 (fun _ _ h => h)
            have s6 := c56.size
            have B6 : Blk w6 w3.heap.size 30 #[.slice (some ⟨g, 0, none⟩) n c2] := B5'.out.chg c56 (App.own_blk_ne HR5.out B5'.out (by decide))
            have D6 : Blk w6 (w.heap.size + 1 + 1) 30 #[.slice none 0 0] := D5.out.chg c56 (App.own_blk_ne HR5.out D5.out (by decide))
            have DS6 := DS5.out.chg c56 hdsn
            have r1 : w6.cell? ⟨w3.heap.size, 0, none⟩ = some (.slice (some ⟨g, 0, none⟩) n c2) := B6.cells 0
            have r2 : w6.cell? ⟨g, j, none⟩ = some (.slice Ai xs.length ci) := (c56.cell (p := ⟨g, j, none⟩) (by show g < w5.heap.size; omega) hne5).trans hc5
            have r3 := HF5.out w6 c56
            have hll : ((xs.map (moveS k 1)).take k ++ s :: (xs.map (moveS k 1)).drop k).length = xs.length + 1 := by rw [List.length_append, List.length_cons, List.length_take, List.length_drop, hLM.out]; omega
            have o7 := HS5.out w6 (.slice A6 (xs.length + 1) c6') ((xs.map (moveS k 1)).take k ++ s :: (xs.map (moveS k 1)).drop k) c56 (by rw [hll]; exact o6) (fun x hx => by
              rcases t6 x hx with h | h
              · exact .inl h
              · exact .inr (Nat.le_trans ((App.Bl.refl w5).alloc _).size h))
            refine hK.out _ _ (fun _ => ⟨r1, r2, DS6.cells 0, DS6.cells 1, DS6.cells 2⟩) ?_
            have S6 := Lib.hid (show (fun V : World => V.cell? ⟨w3.heap.size, 0, none⟩ = some (.slice (some ⟨g, 0, none⟩) n c2) ∧ V.cell? ⟨g, j, none⟩ = some (.slice Ai xs.length ci) ∧ V.cell? ⟨w.heap.size + 1, 0, none⟩ = some (.int .i64 s.1) ∧ V.cell? ⟨w.heap.size + 1, 1, none⟩ = some (.int .i64 s.2.1) ∧ V.cell? ⟨w.heap.size + 1, 2, none⟩ = some (.int .i64 s.2.2)) w6 from ⟨r1, r2, DS6.cells 0, DS6.cells 1, DS6.cells 2⟩)
            have O7 := Lib.hid o7
            clear hK K o6 t6 c6 hins o7
            refine Last.last_one (i := 12) (o := { dst := some 64, op := .indexAddr 28 (.tmp 53) (.tmp 54), type := 0, pos := _, after := _, guard := none }) (by kernel_rfl) rfl rfl (fun K hK => ?_)
            go_simp
            refine hK.out _ _ (fun _ => S6.out) ?_
            clear hK K S6
            refine Last.last_one (i := 13) (o := { dst := none, op := .store 66 (.tmp 64) (.tmp 63), type := 0, pos := _, after := _, guard := none }) (by kernel_rfl) rfl rfl (fun K hK => ?_)
            go_simp
            refine hK.out _ _ (fun h => absurd rfl h) ?_
            clear hK K
            refine Last.last_done (by kernel_rfl) ?_ _
            obtain ⟨w7, hw7⟩ : ∃ w7, w6.setCell ⟨g, j, none⟩ (.slice A6 (xs.length + 1) c6') = w7 := ⟨_, rfl⟩
            have O7' := Lib.hid (by have := O7.out; rw [hw7] at this; exact this)
            rw [hw7]
            have u1 : w7.cell? ⟨w3.heap.size, 0, none⟩ = some (.slice (some ⟨g, 0, none⟩) n c2) := by rw [← hw7]; exact (B6.far _ _ (by show w3.heap.size ≠ g; omega)).cells 0
            have u2 : w7.cell? ⟨w.heap.size + 1 + 1, 0, none⟩ = some (.slice none 0 0) := by rw [← hw7]; exact (D6.far _ _ (by show w.heap.size + 1 + 1 ≠ g; omega)).cells 0
            have f7 : w7.frozen? ⟨w.heap.size + 1 + 1, 0, none⟩ = false := by rw [← hw7]; exact (D6.far _ _ (by show w.heap.size + 1 + 1 ≠ g; omega)).frozen 0
            have bb7 : Below w.heap.size w w7 := by
              rw [← hw7]
              refine Below.setCell ?_ (by show w.heap.size ≤ g; omega) _
              exact bb5.trans (c56.below bb5.size (fun x hx hx' => by have := (HB5.out x hx').1; omega))
            clear hw7 r1 r2 r3 B6 D6 DS6 y1 q0 q1 q2 hc5 bb5 O7 hSk c56 hj0 hj1
            go_wp2_with fail
            refine bodyPost_ret (v := .tuple #[.agg #[.slice (some ⟨g, 0, none⟩) n c2], .bool true]) (by simp [results, Try.results18, go_sem, u2]) rfl ?_
            have fin := O7'.out
            rw [List.set_set] at fin
            have fin2 := ((OwnH.of fin).keep (w' := w7.setCell ⟨w.heap.size + 1 + 1, 0, none⟩ (.slice (some ⟨g, 0, none⟩) n c2)) (fun b h1 _ => Below.heap_setCell _ _ _ _ (by show b ≠ w.heap.size + 1 + 1; omega))).own.mono (show w.heap.size ≤ w2.heap.size by omega)
            rw [hs.out]
            have hl : (p.set j ((xs.map (moveS k 1)).take k ++ s :: (xs.map (moveS k 1)).drop k)).length = n := by rw [List.length_set]; exact hL.out
            exact ⟨_, _, by rw [hl], by rw [hl]; exact fin2, bb7.setCell (by show w.heap.size ≤ w.heap.size + 1 + 1; omega) _⟩
end Go.Proofs.Ytgfjdfmmkomolaa.PutI
