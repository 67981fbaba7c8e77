/- impl.JoinErrors and spec.JoinErrors return errors with one more ahead of all others, which joins a list of them. -/
import Derived.Test.YtkjgibhckcdneaaErwr
namespace Go.Proofs.Ytkjgibhckcdneaa.ErJ
set_option linter.unusedVariables false
set_option linter.unusedSimpArgs false
open Go.ChangeShapes Go.WideShapes Go.ChangeAt Go.RowKit
open Mem IntsP ErP ErM ErT ErA ErU ErD ErW ErL ErF

def FitL (xs : List Int) : Prop := ∀ (j : Nat) (z : Int), xs[j]? = some z → fitI z
def joinR (p : Er) (xs : List Int) : Er × Bool := firstR p (3, 0, xs)
theorem join_fits (p : Er) (xs : List Int) : FitsE (joinR p xs).1 := first_fits _ _
def allIn (p : Er) (xs : List Int) (k : Nat) : Prop := ∀ (j : Nat) (z : Int), j < k → xs[j]? = some z → 0 ≤ z ∧ z < p.length
theorem node_three {n : Nat} {ys : List Int} : okNode (n + 1) 0 (3, 0, ys) = true ↔ (1 ≤ ys.length ∧ ys.length ≤ 12) ∧ ∀ (j : Nat) (y : Int), ys[j]? = some y → 0 < y ∧ y < (n : Int) + 1 := by
  rw [okNode_iff]
  constructor
  · rintro ⟨a, b, c, d, e⟩
    refine ⟨⟨?_, c⟩, fun j y hy => ?_⟩
    · simp [okKind] at e
      cases ys with
      | nil => simp at e
      | cons y ys => simp
    · have := d j y (List.getElem?_eq_some_iff.1 hy).1 hy
      unfold okPart at this
      rw [Bool.and_eq_true, decide_eq_true_eq, decide_eq_true_eq] at this
      exact ⟨by omega, by omega⟩
  · rintro ⟨⟨a, b⟩, c⟩
    refine ⟨(by show (0 : Int) ≤ 0; omega), (by show (0 : Int) ≤ 99; omega), b, fun j p hj hp => ?_, ?_⟩
    · have := c j p hp
      exact okPart_yes (by omega) (by omega)
    · show okKind 3 0 ys.length = true
      simp [okKind]; omega
theorem join_ok {p : Er} {xs : List Int} (hx : FitL xs) (h : okErr p = true) : okErr (aheadE p (3, 0, xs)) = true ↔ p.length ≠ 12 ∧ (1 ≤ xs.length ∧ xs.length ≤ 12) ∧ allIn p xs xs.length := by
  have h12 := ((okErr_iff p).1 h).2.1
  rw [ahead_ok h]
  show p.length ≠ 12 ∧ okNode (p.length + 1) 0 (3, 0, xs.map nx) = true ↔ _
  rw [node_three, List.length_map]
  refine and_congr_right fun _ => and_congr_right fun _ => ⟨fun g j z _ hz => ?_, fun g j y hy => ?_⟩
  · have := g j (nx z) (by rw [List.getElem?_map, hz]; rfl)
    have hf := hx j z hz
    unfold fitI at hf
    by_cases hm : z = 9223372036854775807
    · subst hm
      rw [show nx 9223372036854775807 = -9223372036854775808 from rfl] at this
      omega
    · rw [nx_small (by omega)] at this
      omega
  · rw [List.getElem?_map] at hy
    obtain ⟨z, hz, rfl⟩ := Option.map_eq_some_iff.1 hy
    have := g j z (List.getElem?_eq_some_iff.1 hz).1 hz
    rw [nx_small (by omega)]
    omega
theorem join_no {p : Er} {xs : List Int} (hx : FitL xs) (h : ¬ (okErr p = true ∧ p.length ≠ 12 ∧ (1 ≤ xs.length ∧ xs.length ≤ 12) ∧ allIn p xs xs.length)) : joinR p xs = ([], false) := by
  unfold joinR firstR
  cases hok : okErr p with
  | false => rfl
  | true =>
    have : ¬ okErr (aheadE p (3, 0, xs)) = true := fun g => h ⟨hok, (join_ok hx hok).1 g⟩
    rw [Bool.not_eq_true] at this
    rw [this]; rfl
theorem join_yes {p : Er} {xs : List Int} (hx : FitL xs) (hok : okErr p = true) (h : p.length ≠ 12 ∧ (1 ≤ xs.length ∧ xs.length ≤ 12) ∧ allIn p xs xs.length) : joinR p xs = (aheadE p (3, 0, xs), true) := by
  unfold joinR firstR
  rw [hok, (join_ok hx hok).2 h]; rfl
set_option maxRecDepth 100000 in
set_option maxHeartbeats 2000000 in
theorem joiI_any (lo n c : Nat) (A : Option Addr) (p : Er) (Al : Option Addr) (ml cl : Nat) (xs : List Int) (hx : FitL xs) (hlx : xs.length = ml) (hml : ml ≤ 2000000) (hn : n ≤ 2000000) (hl : p.length = n) (hsm : SmallE p 2000000) (w : World) (ho : OwnE w lo (.slice A n c) p) (hrx : RdI w w.heap.size Al xs) :
    Calls Try.prog 40 #[.agg #[.slice A n c], .slice Al ml cl] w (ErrR (joinR p xs) w) := by
  have b2 : ∀ o o' : Obj, Below w.heap.size w ((w.alloc o).alloc o') := fun o o' => ((Below.refl _ _).alloc (Nat.le_refl _) _).alloc (by simp) _
  have B2 := Lib.hid b2
  have hO := Lib.hid ho
  have hL := Lib.hid hl
  have hS := Lib.hid hsm
  have hX := Lib.hid hx
  have hLX := Lib.hid hlx
  have hRX := Lib.hid hrx
  clear ho hl hsm b2 hx hlx hrx
  go_enter Try.func40, Try.ntmps40
  go_wp2_with fail
  refine (first_any lo n c A p 3 0 Al ml cl xs hn hL.out hS.out hml hLX.out hX.out _ (hO.out.below (B2.out _ _)) ((hRX.out.below (B2.out _ _)).more (by simp; omega))).mono ?_
  rintro e w1 ⟨A1, c1, rfl, o1, b1⟩
  have bb := Lib.hid ((B2.out (.cells #[.slice A n c] 29) (.cells #[.slice none 0 0] 29)).trans (b1.mono (by simp; omega)))
  have x1 : Blk w1 (w.heap.size + 1) 29 #[.slice none 0 0] := Blk.below (heap2_1 w _ _) b1 (by simp)
  have y1 : w1.cell? ⟨w.heap.size + 1, 0, none⟩ = some (.slice none 0 0) := x1.cells 0
  have f1 : w1.frozen? ⟨w.heap.size + 1, 0, none⟩ = false := x1.frozen 0
  have O1 := Lib.hid o1
  clear o1 b1 x1
  obtain ⟨⟨q, bo⟩, hr⟩ : ∃ r, firstR p (3, 0, xs) = r := ⟨_, rfl⟩
  rw [hr] at O1
  rw [hr]
  have HR := Lib.hid (show joinR p xs = (q, bo) from hr)
  clear hr
  dsimp only at *
  obtain ⟨m, hm⟩ : ∃ m, q.length = m := ⟨_, rfl⟩
  rw [hm] at O1
  rw [hm]
  have HM := Lib.hid hm
  clear hm
  go_wp2_with fail
  refine bodyPost_ret (v := .tuple #[.agg #[.slice A1 m c1], .bool bo]) (by simp [results, Try.results40, go_sem, y1]) rfl ?_
  rw [HR.out]
  refine ⟨A1, c1, by simp only [HM.out], ?_, bb.out.setCell (p := ⟨w.heap.size + 1, 0, none⟩) (by show w.heap.size ≤ w.heap.size + 1; omega) _⟩
  simp only [HM.out]
  refine (O1.out.chg (Chg.set _ ⟨w.heap.size + 1, 0, none⟩ _) (fun b hb _ => ?_)).mono (by simp; omega)
  show ¬ b = w.heap.size + 1
  simp at hb
  omega
set_option maxRecDepth 100000 in
set_option maxHeartbeats 4000000 in
theorem joiS_any (lo n c : Nat) (A : Option Addr) (p : Er) (Al : Option Addr) (ml cl : Nat) (xs : List Int) (hx : FitL xs) (hlx : xs.length = ml) (hml : ml ≤ 2000000) (hn : n ≤ 2000000) (hl : p.length = n) (hsm : SmallE p 2000000) (w : World) (ho : OwnE w lo (.slice A n c) p) (hrx : RdI w w.heap.size Al xs) :
    Calls Try.prog 38 #[.agg #[.slice A n c], .slice Al ml cl] w (ErrR (joinR p xs) w) := by
  have hF := Lib.hid (fun w hr hB => l6Errors_any w.heap.size A n c p (by omega) hl (hsm.mono (by omega)) w hr hB)
  have hG := Lib.hid (fun x W (hr : RdE W W.heap.size A p) => l6One_any W.heap.size A n c p x (by omega) hl (hsm.mono (by omega)) W hr (Nat.le_refl _))
  have b2 : ∀ o o' : Obj, Below w.heap.size w ((w.alloc o).alloc o') := fun o o' => ((Below.refl _ _).alloc (Nat.le_refl _) _).alloc (by simp) _
  have B2 := Lib.hid b2
  have hO := Lib.hid ho
  have hL := Lib.hid hl
  have hRd := Lib.hid ho.rd
  have hX := Lib.hid hx
  have hLX := Lib.hid hlx
  have hRX := Lib.hid hrx
  clear ho hl hsm b2 hx hlx hrx
  cases hok : okErr p with
  | false =>
    have hs := Lib.hid (join_no (p := p) (xs := xs) hX.out (fun g => by rw [hok] at g; cases g.1))
    rw [hok] at hF
    clear hok
    go_enter Try.func38, Try.ntmps38
    go_wp2_with fail
    refine (hF.out _ (hO.out.below (B2.out _ _)).rd (Nat.le_refl _)).mono ?_
    rintro e w1 ⟨rfl, b⟩
    have bb := Lib.hid ((B2.out (.cells #[.slice A n c] 29) (.cells #[.slice none 0 0] 29)).trans (b.mono (by simp; omega)))
    have x1 : Blk w1 (w.heap.size + 1) 29 #[.slice none 0 0] := Blk.below (heap2_1 w _ _) b (by simp)
    have y1 : w1.cell? ⟨w.heap.size + 1, 0, none⟩ = some (.slice none 0 0) := x1.cells 0
    have f1 : w1.frozen? ⟨w.heap.size + 1, 0, none⟩ = false := x1.frozen 0
    clear b x1
    go_wp2_with fail
    refine bodyPost_ret (v := .tuple #[.agg #[.slice none 0 0], .bool false]) (by simp [results, Try.results38, go_sem, y1]) rfl ?_
    rw [hs.out]
    exact ⟨none, 0, rfl, OwnE.nil _ _, bb.out.setCell (p := ⟨w.heap.size + 1, 0, none⟩) (by show w.heap.size ≤ w.heap.size + 1; omega) _⟩
  | true =>
    have hn12 : n ≤ 12 := by rw [← hL.out]; exact ((okErr_iff p).1 hok).2.1
    have HOK := Lib.hid hok
    rw [hok] at hF
    clear hok
    go_enter Try.func38, Try.ntmps38
    go_wp2_with fail
    refine (hF.out _ (hO.out.below (B2.out _ _)).rd (Nat.le_refl _)).mono ?_
    rintro e w1 ⟨rfl, b⟩
    have bb := Lib.hid ((B2.out (.cells #[.slice A n c] 29) (.cells #[.slice none 0 0] 29)).trans (b.mono (by simp; omega)))
    have x1 : Blk w1 (w.heap.size + 1) 29 #[.slice none 0 0] := Blk.below (heap2_1 w _ _) b (by simp)
    have x0 : Blk w1 w.heap.size 29 #[.slice A n c] := Blk.below (heap2_0 w _ _) b (by simp; omega)
    have z0 : w1.cell? ⟨w.heap.size, 0, none⟩ = some (.slice A n c) := x0.cells 0
    have y1 : w1.cell? ⟨w.heap.size + 1, 0, none⟩ = some (.slice none 0 0) := x1.cells 0
    have f1 : w1.frozen? ⟨w.heap.size + 1, 0, none⟩ = false := x1.frozen 0
    have X1 := Lib.hid x1
    have X0 := Lib.hid x0
    have lw1 := x1.lt
    clear b x1 x0
    by_cases h12 : n = 12
    · have hs := Lib.hid (join_no (p := p) (xs := xs) hX.out (fun g => g.2.1 (by rw [hL.out]; exact h12)))
      subst h12
      go_wp2_with fail
      refine bodyPost_ret (v := .tuple #[.agg #[.slice none 0 0], .bool false]) (by simp [results, Try.results38, go_sem, y1]) rfl ?_
      rw [hs.out]
      exact ⟨none, 0, rfl, OwnE.nil _ _, bb.out.setCell (p := ⟨w.heap.size + 1, 0, none⟩) (by show w.heap.size ≤ w.heap.size + 1; omega) _⟩
    have hb12 : ((n : Int) == 12) = false := by rw [beq_eq_false_iff_ne]; omega
    go_wp2_with fail
    refine (l1In_any ml 1 12 _).mono ?_
    rintro e w2 ⟨rfl, rfl⟩
    by_cases hm : 1 ≤ ml ∧ ml ≤ 12
    case neg =>
      have hs := Lib.hid (join_no (p := p) (xs := xs) hX.out (fun g => hm (by rw [hLX.out] at g; exact g.2.2.1)))
      rw [btw_no (by omega)]
      clear hm
      go_wp2_with fail
      refine bodyPost_ret (v := .tuple #[.agg #[.slice none 0 0], .bool false]) (by simp [results, Try.results38, go_sem, y1]) rfl ?_
      rw [hs.out]
      exact ⟨none, 0, rfl, OwnE.nil _ _, bb.out.setCell (p := ⟨w.heap.size + 1, 0, none⟩) (by show w.heap.size ≤ w.heap.size + 1; omega) _⟩
    case pos =>
    rw [btw_yes (by omega) (by omega)]
    have H12 := Lib.hid h12
    clear h12
    go_wp2_with fail
    go_loopw [6] (fun i wr => ∃ j : Nat, j ≤ ml ∧ i = .int .i64 j ∧ Hid (allIn p xs j) ∧ Below w1.heap.size w1 wr) (fun i _ => ml - (intOf i).toNat)
    case atStart => exact ⟨0, Nat.zero_le _, rfl, Lib.hid (fun j z h => absurd h (by omega)), Below.refl _ _⟩
    case round =>
      obtain ⟨j, hj, rfl, HA, hb⟩ := hrel
      have zr : wr.cell? ⟨w.heap.size, 0, none⟩ = some (.slice A n c) := (X0.out.below hb X0.out.lt).cells 0
      have y1r : wr.cell? ⟨w.heap.size + 1, 0, none⟩ = some (.slice none 0 0) := (X1.out.below hb X1.out.lt).cells 0
      have f1r : wr.frozen? ⟨w.heap.size + 1, 0, none⟩ = false := (X1.out.below hb X1.out.lt).frozen 0
      have BB := Lib.hid (bb.out.trans (hb.mono bb.out.size))
      have HB := Lib.hid hb
      have szr := hb.size
      clear hb z0 y1 f1
      by_cases hjl : j < ml
      · obtain ⟨z, hz⟩ : ∃ z, xs[j]? = some z := ⟨_, List.getElem?_eq_getElem (by rw [hLX.out]; exact hjl)⟩
        obtain ⟨ad, hA, hab, d0⟩ := (hRX.out.below BB.out) j z hz
        have hC := Lib.hid (hG.out z wr.drew ((hRd.out.below BB.out.drew).more BB.out.size))
        have HZ := Lib.hid hz
        have hone : (oneE p z = true ↔ 0 ≤ z ∧ z < p.length) := by rw [oneE_iff]; exact ⟨fun g => g.2, fun g => ⟨HOK.out, g⟩⟩
        have HONE := Lib.hid hone
        subst hA
        clear hz hone
        go_wp2_with fail
        refine wp_region_still_tail 5 (by kernel_rfl) (by kernel_rfl) ?_
        simp only [List.take_succ_cons, List.take_zero, List.drop_succ_cons, List.drop_zero]
        change wpStill _ _ wr.drew _ _ _
        have zr' : wr.drew.cell? ⟨w.heap.size, 0, none⟩ = some (.slice A n c) := zr
        have d0' : wr.drew.cell? (ad.add j) = some (.int .i64 z) := d0
        repeat still_step
        refine wpStill_nil ?_
        change wpList _ _ _ _ _ wr.drew
        clear zr' d0' zr d0 y1r f1r
        go_wp2_with fail
        refine hC.out.mono ?_
        rintro e w5 ⟨rfl, b5⟩
        have HB5 := Lib.hid (HB.out.drew.trans (b5.mono szr))
        have y5 : w5.cell? ⟨w.heap.size + 1, 0, none⟩ = some (.slice none 0 0) := (X1.out.below HB5.out X1.out.lt).cells 0
        have f5 : w5.frozen? ⟨w.heap.size + 1, 0, none⟩ = false := (X1.out.below HB5.out X1.out.lt).frozen 0
        clear b5
        cases hoz : oneE p z with
        | false =>
          have hs := Lib.hid (join_no (p := p) (xs := xs) hX.out (fun g => by
            have := HONE.out.2 (g.2.2.2 j z (by rw [hLX.out]; exact hjl) HZ.out)
            rw [hoz] at this; cases this))
          clear hoz
          go_wp2_with fail
          refine bodyPost_ret (v := .tuple #[.agg #[.slice none 0 0], .bool false]) (by simp [results, Try.results38, go_sem, y5]) rfl ?_
          rw [hs.out]
          exact ⟨none, 0, rfl, OwnE.nil _ _, (bb.out.trans (HB5.out.mono bb.out.size)).setCell (p := ⟨w.heap.size + 1, 0, none⟩) (by show w.heap.size ≤ w.heap.size + 1; omega) _⟩
        | true =>
          have HN : Hid (allIn p xs (j + 1)) := Lib.hid (fun i y hi hy => by
            rcases Nat.lt_or_ge i j with h | h
            · exact HA.out i y h hy
            · obtain rfl : i = j := by omega
              rw [HZ.out] at hy
              obtain rfl : z = y := by simpa using hy
              exact HONE.out.1 hoz)
          clear hoz
          go_wp2_with fail
          go_roundw
          case rel => exact ⟨j + 1, by omega, by go_num, HN, HB5.out⟩
          case measure => simp [intOf]; omega
      · obtain rfl : j = ml := by omega
        have hs := Lib.hid (join_yes (p := p) (xs := xs) hX.out HOK.out ⟨by rw [hL.out]; exact H12.out, by rw [hLX.out]; exact hm, by rw [hLX.out]; exact HA.out⟩)
        have hal := Lib.hid (show (aheadE p (3, 0, xs)).length = n + 1 by rw [aheadE_length, hL.out])
        have hin := Lib.hid (show ∀ (q : Nat) (z : Int), xs[q]? = some z → 0 ≤ z ∧ z < n from fun q z hz => by
          have := HA.out q z (by have := (List.getElem?_eq_some_iff.1 hz).1; rw [hLX.out] at this; exact this) hz
          rw [hL.out] at this; exact this)
        go_wp2_with fail
        refine (aheadS_any n c A p 3 0 Al j cl xs hL.out HOK.out (by omega) hLX.out hin.out _ ((hRd.out.below BB.out).more BB.out.size) ((hRX.out.below BB.out).more BB.out.size)).mono ?_
        rintro e w5 ⟨A1, c1, rfl, o1, b5⟩
        have HB5 := Lib.hid (HB.out.trans (b5.mono szr))
        have y5 : w5.cell? ⟨w.heap.size + 1, 0, none⟩ = some (.slice none 0 0) := (X1.out.below HB5.out X1.out.lt).cells 0
        have f5 : w5.frozen? ⟨w.heap.size + 1, 0, none⟩ = false := (X1.out.below HB5.out X1.out.lt).frozen 0
        have O1 := Lib.hid o1
        clear b5 o1 zr y1r f1r
        go_wp2_with fail
        refine bodyPost_ret (v := .tuple #[.agg #[.slice A1 (n + 1) c1], .bool true]) (by simp [results, Try.results38, go_sem, y5]) rfl ?_
        rw [hs.out]
        refine ⟨A1, c1, by simp only [hal.out], ?_, (bb.out.trans (HB5.out.mono bb.out.size)).setCell (p := ⟨w.heap.size + 1, 0, none⟩) (by show w.heap.size ≤ w.heap.size + 1; omega) _⟩
        simp only [hal.out]
        refine (O1.out.chg (Chg.set _ ⟨w.heap.size + 1, 0, none⟩ _) (fun b hb _ => ?_)).mono (by omega)
        show ¬ b = w.heap.size + 1
        omega
end Go.Proofs.Ytkjgibhckcdneaa.ErJ
