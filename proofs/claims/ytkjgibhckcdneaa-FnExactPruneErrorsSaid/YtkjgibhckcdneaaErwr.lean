/- impl.WrapError and spec.WrapError return errors with one more ahead of all others, which wraps one of them. -/
import Derived.Test.YtkjgibhckcdneaaErwg
namespace Go.Proofs.Ytkjgibhckcdneaa.ErF
set_option linter.unusedVariables false
set_option linter.unusedSimpArgs false
open Go.ChangeShapes Go.WideShapes Go.ChangeAt Go.RowKit
open Mem IntsP ErP ErM ErT ErA ErU ErD ErW ErL

def wrapR (p : Er) (x code : Int) : Er × Bool := firstR p (2, code, [x])
theorem one_rd {w : World} {g : Nat} {x : Int} (h : w.heap[g]? = some (.cells #[.int .i64 x] 3)) (B : Nat) (hB : g < B) : RdI w B (some ⟨g, 0, none⟩) [x] := by
  intro j z hz
  have hj : j < 1 := by simpa using (List.getElem?_eq_some_iff.1 hz).1
  obtain rfl : j = 0 := by omega
  obtain rfl : x = z := by simpa using hz
  exact ⟨_, rfl, hB, (cell_of_row w g 0 _ _ (0, 0) h)⟩
set_option maxRecDepth 100000 in
set_option maxHeartbeats 2000000 in
theorem wraI_any (lo n c : Nat) (A : Option Addr) (p : Er) (x code : Int) (hx : fitI x) (hn : n ≤ 2000000) (hl : p.length = n) (hsm : SmallE p 2000000) (w : World) (ho : OwnE w lo (.slice A n c) p) :
    Calls Try.prog 36 #[.agg #[.slice A n c], .int .i64 x, .int .i64 code] w (ErrR (wrapR p x code) w) := by
  have b3 : ∀ o o' o2 : Obj, Below w.heap.size w (((w.alloc o).alloc o').alloc o2) := fun o o' o2 => (((Below.refl _ _).alloc (Nat.le_refl _) _).alloc (by simp) _).alloc (by simp; omega) _
  have B3 := Lib.hid b3
  have hO := Lib.hid ho
  have hL := Lib.hid hl
  have hS := Lib.hid hsm
  clear ho hl hsm b3
  go_enter Try.func36, Try.ntmps36
  go_wp2_with fail
  refine (first_any lo n c A p 2 code (some ⟨w.heap.size + 1 + 1, 0, none⟩) 1 1 [x] hn hL.out hS.out (by omega) rfl (fun j z hz => by
    have hj : j < 1 := by simpa using (List.getElem?_eq_some_iff.1 hz).1
    obtain rfl : j = 0 := by omega
    obtain rfl : x = z := by simpa using hz
    exact hx) _ (hO.out.below (B3.out _ _ _)) (one_rd (heap3_2 w _ _ _) _ (by simp))).mono ?_
  rintro e w1 ⟨A1, c1, rfl, o1, b1⟩
  have bb := Lib.hid ((B3.out (.cells #[.slice A n c] 29) (.cells #[.slice none 0 0] 29) (.cells #[.int .i64 x] 3)).trans (b1.mono (by simp; omega)))
  have x1 : Blk w1 (w.heap.size + 1) 29 #[.slice none 0 0] := Blk.below (heap3_1 w _ _ _) b1 (by simp)
  have y1 : w1.cell? ⟨w.heap.size + 1, 0, none⟩ = some (.slice none 0 0) := x1.cells 0
  have f1 : w1.frozen? ⟨w.heap.size + 1, 0, none⟩ = false := x1.frozen 0
  have O1 := Lib.hid o1
  clear o1 b1 x1
  obtain ⟨⟨q, bo⟩, hr⟩ : ∃ r, firstR p (2, code, [x]) = r := ⟨_, rfl⟩
  rw [hr] at O1
  rw [hr]
  have HR := Lib.hid (show wrapR p x code = (q, bo) from hr)
  clear hr
  dsimp only at *
  obtain ⟨m, hm⟩ : ∃ m, q.length = m := ⟨_, rfl⟩
  rw [hm] at O1
  rw [hm]
  have HM := Lib.hid hm
  clear hm
  go_wp2_with fail
  refine bodyPost_ret (v := .tuple #[.agg #[.slice A1 m c1], .bool bo]) (by simp [results, Try.results36, go_sem, y1]) rfl ?_
  rw [HR.out]
  refine ⟨A1, c1, by simp only [HM.out], ?_, bb.out.setCell (p := ⟨w.heap.size + 1, 0, none⟩) (by show w.heap.size ≤ w.heap.size + 1; omega) _⟩
  simp only [HM.out]
  refine (O1.out.chg (Chg.set _ ⟨w.heap.size + 1, 0, none⟩ _) (fun b hb _ => ?_)).mono (by simp; omega)
  show ¬ b = w.heap.size + 1
  simp at hb
  omega
theorem node_two {n : Nat} {code y : Int} : okNode (n + 1) 0 (2, code, [y]) = true ↔ 0 ≤ code ∧ code ≤ 99 ∧ 0 < y ∧ y < (n : Int) + 1 := by
  rw [okNode_iff]
  constructor
  · rintro ⟨a, b, c, d, e⟩
    have := d 0 y (by simp) rfl
    unfold okPart at this
    rw [Bool.and_eq_true, decide_eq_true_eq, decide_eq_true_eq] at this
    exact ⟨a, b, by omega, by omega⟩
  · rintro ⟨a, b, c, d⟩
    refine ⟨a, b, by simp, fun j p hj hp => ?_, by simp [okKind]⟩
    have hj : j < 1 := by simpa using hj
    obtain rfl : j = 0 := by omega
    obtain rfl : y = p := by simpa using hp
    exact okPart_yes (by omega) (by omega)
theorem wrap_ok {p : Er} {x code : Int} (hx : fitI x) (h : okErr p = true) : okErr (aheadE p (2, code, [x])) = true ↔ (0 ≤ x ∧ x < p.length) ∧ p.length ≠ 12 ∧ 0 ≤ code ∧ code ≤ 99 := by
  have h12 := ((okErr_iff p).1 h).2.1
  rw [ahead_ok h]
  show p.length ≠ 12 ∧ okNode (p.length + 1) 0 (2, code, [nx x]) = true ↔ _
  rw [node_two]
  unfold fitI at hx
  by_cases hm : x = 9223372036854775807
  · subst hm
    rw [show nx 9223372036854775807 = -9223372036854775808 from rfl]
    constructor <;> intro g <;> omega
  · rw [nx_small (by omega)]
    constructor <;> intro g <;> omega
theorem wrap_no {p : Er} {x code : Int} (hx : fitI x) (h : ¬ (oneE p x = true ∧ p.length ≠ 12 ∧ 0 ≤ code ∧ code ≤ 99)) : wrapR p x code = ([], false) := by
  unfold wrapR firstR
  cases hok : okErr p with
  | false => rfl
  | true =>
    have : ¬ okErr (aheadE p (2, code, [x])) = true := fun g => by
      obtain ⟨a, b, c⟩ := (wrap_ok hx hok).1 g
      exact h ⟨(oneE_iff p x).2 ⟨hok, a⟩, b, c⟩
    rw [Bool.not_eq_true] at this
    rw [this]; rfl
theorem wrap_yes {p : Er} {x code : Int} (hx : fitI x) (h : oneE p x = true ∧ p.length ≠ 12 ∧ 0 ≤ code ∧ code ≤ 99) : wrapR p x code = (aheadE p (2, code, [x]), true) := by
  obtain ⟨h1, h2⟩ := h
  obtain ⟨hok, h3⟩ := (oneE_iff p x).1 h1
  unfold wrapR firstR
  rw [hok, (wrap_ok hx hok).2 ⟨h3, h2⟩]; rfl
set_option maxRecDepth 100000 in
set_option maxHeartbeats 2000000 in
theorem wraS_any (lo n c : Nat) (A : Option Addr) (p : Er) (x code : Int) (hx : fitI x) (hn : n ≤ 2000000) (hl : p.length = n) (hsm : SmallE p 2000000) (w : World) (ho : OwnE w lo (.slice A n c) p) :
    Calls Try.prog 35 #[.agg #[.slice A n c], .int .i64 x, .int .i64 code] w (ErrR (wrapR p x code) w) := by
  have hF := Lib.hid (fun w hr hB => l6One_any w.heap.size A n c p x (by omega) hl (hsm.mono (by omega)) w hr hB)
  have b2 : ∀ o o' : Obj, Below w.heap.size w ((w.alloc o).alloc o') := fun o o' => ((Below.refl _ _).alloc (Nat.le_refl _) _).alloc (by simp) _
  have B2 := Lib.hid b2
  have hO := Lib.hid ho
  have hL := Lib.hid hl
  have hRd := Lib.hid ho.rd
  have hX := Lib.hid hx
  clear ho hl hsm b2 hx
  cases hfn : oneE p x with
  | false =>
    have hs := Lib.hid (wrap_no (p := p) (code := code) hX.out (fun g => by rw [hfn] at g; cases g.1))
    rw [hfn] at hF
    clear hfn
    go_enter Try.func35, Try.ntmps35
    go_wp2_with fail
    refine (hF.out _ (hO.out.below (B2.out _ _)).rd (Nat.le_refl _)).mono ?_
    rintro e w1 ⟨rfl, b⟩
    have bb := Lib.hid ((B2.out (.cells #[.slice A n c] 29) (.cells #[.slice none 0 0] 29)).trans (b.mono (by simp; omega)))
    have x1 : Blk w1 (w.heap.size + 1) 29 #[.slice none 0 0] := Blk.below (heap2_1 w _ _) b (by simp)
    have y1 : w1.cell? ⟨w.heap.size + 1, 0, none⟩ = some (.slice none 0 0) := x1.cells 0
    have f1 : w1.frozen? ⟨w.heap.size + 1, 0, none⟩ = false := x1.frozen 0
    clear b x1
    go_wp2_with fail
    refine bodyPost_ret (v := .tuple #[.agg #[.slice none 0 0], .bool false]) (by simp [results, Try.results35, go_sem, y1]) rfl ?_
    rw [hs.out]
    exact ⟨none, 0, rfl, OwnE.nil _ _, bb.out.setCell (p := ⟨w.heap.size + 1, 0, none⟩) (by show w.heap.size ≤ w.heap.size + 1; omega) _⟩
  | true =>
    obtain ⟨x0, sx, rfl, hxn, hxx, hok, hn12⟩ := oneE_at hfn
    rw [hL.out] at hxn hn12
    have HFN := Lib.hid hfn
    have HOK := Lib.hid hok
    rw [hfn] at hF
    clear hfn hxx hok
    by_cases h12 : n = 12
    · have hs := Lib.hid (wrap_no (p := p) (code := code) hX.out (fun g => g.2.1 (by rw [hL.out]; exact h12)))
      subst h12
      go_enter Try.func35, Try.ntmps35
      go_wp2_with fail
      refine (hF.out _ (hO.out.below (B2.out _ _)).rd (Nat.le_refl _)).mono ?_
      rintro e w1 ⟨rfl, b⟩
      have bb := Lib.hid ((B2.out (.cells #[.slice A 12 c] 29) (.cells #[.slice none 0 0] 29)).trans (b.mono (by simp; omega)))
      have x1 : Blk w1 (w.heap.size + 1) 29 #[.slice none 0 0] := Blk.below (heap2_1 w _ _) b (by simp)
      have z0 : w1.cell? ⟨w.heap.size, 0, none⟩ = some (.slice A 12 c) := (Blk.below (heap2_0 w _ _) b (by simp; omega) : Blk w1 w.heap.size 29 #[.slice A 12 c]).cells 0
      have y1 : w1.cell? ⟨w.heap.size + 1, 0, none⟩ = some (.slice none 0 0) := x1.cells 0
      have f1 : w1.frozen? ⟨w.heap.size + 1, 0, none⟩ = false := x1.frozen 0
      clear b x1
      go_wp2_with fail
      refine bodyPost_ret (v := .tuple #[.agg #[.slice none 0 0], .bool false]) (by simp [results, Try.results35, go_sem, y1]) rfl ?_
      rw [hs.out]
      exact ⟨none, 0, rfl, OwnE.nil _ _, bb.out.setCell (p := ⟨w.heap.size + 1, 0, none⟩) (by show w.heap.size ≤ w.heap.size + 1; omega) _⟩
    have hb12 : ((n : Int) == 12) = false := by rw [beq_eq_false_iff_ne]; omega
    by_cases hcd : 0 ≤ code ∧ code ≤ 99
    case neg =>
      have hs := Lib.hid (wrap_no (p := p) (code := code) hX.out (fun g => hcd g.2.2))
      have hbt := Lib.hid (btw_no hcd)
      clear hcd
      go_enter Try.func35, Try.ntmps35
      go_wp2_with fail
      refine (hF.out _ (hO.out.below (B2.out _ _)).rd (Nat.le_refl _)).mono ?_
      rintro e w1 ⟨rfl, b⟩
      have bb := Lib.hid ((B2.out (.cells #[.slice A n c] 29) (.cells #[.slice none 0 0] 29)).trans (b.mono (by simp; omega)))
      have x1 : Blk w1 (w.heap.size + 1) 29 #[.slice none 0 0] := Blk.below (heap2_1 w _ _) b (by simp)
      have z0 : w1.cell? ⟨w.heap.size, 0, none⟩ = some (.slice A n c) := (Blk.below (heap2_0 w _ _) b (by simp; omega) : Blk w1 w.heap.size 29 #[.slice A n c]).cells 0
      have y1 : w1.cell? ⟨w.heap.size + 1, 0, none⟩ = some (.slice none 0 0) := x1.cells 0
      have f1 : w1.frozen? ⟨w.heap.size + 1, 0, none⟩ = false := x1.frozen 0
      clear b x1
      go_wp2_with fail
      refine (l1In_any code 0 99 _).mono ?_
      rintro e w2 ⟨rfl, rfl⟩
      rw [hbt.out]
      go_wp2_with fail
      refine bodyPost_ret (v := .tuple #[.agg #[.slice none 0 0], .bool false]) (by simp [results, Try.results35, go_sem, y1]) rfl ?_
      rw [hs.out]
      exact ⟨none, 0, rfl, OwnE.nil _ _, bb.out.setCell (p := ⟨w.heap.size + 1, 0, none⟩) (by show w.heap.size ≤ w.heap.size + 1; omega) _⟩
    case pos =>
    have hs := Lib.hid (wrap_yes (p := p) hX.out ⟨HFN.out, by rw [hL.out]; exact h12, hcd⟩)
    have hbt := Lib.hid (btw_yes hcd.1 hcd.2)
    have hal := Lib.hid (show (aheadE p (2, code, [(x0 : Int)])).length = n + 1 by rw [aheadE_length, hL.out])
    clear hcd
    go_enter Try.func35, Try.ntmps35
    go_wp2_with fail
    refine (hF.out _ (hO.out.below (B2.out _ _)).rd (Nat.le_refl _)).mono ?_
    rintro e w1 ⟨rfl, b⟩
    have bb := Lib.hid ((B2.out (.cells #[.slice A n c] 29) (.cells #[.slice none 0 0] 29)).trans (b.mono (by simp; omega)))
    have x1 : Blk w1 (w.heap.size + 1) 29 #[.slice none 0 0] := Blk.below (heap2_1 w _ _) b (by simp)
    have z0 : w1.cell? ⟨w.heap.size, 0, none⟩ = some (.slice A n c) := (Blk.below (heap2_0 w _ _) b (by simp; omega) : Blk w1 w.heap.size 29 #[.slice A n c]).cells 0
    have X1 := Lib.hid x1
    clear b x1
    go_wp2_with fail
    refine (l1In_any code 0 99 _).mono ?_
    rintro e w2 ⟨rfl, rfl⟩
    rw [hbt.out]
    have l1 := X1.out.lt
    go_wp2_with fail
    refine (aheadS_any n c A p 2 code (some ⟨w1.heap.size, 0, none⟩) 1 1 [(x0 : Int)] hL.out HOK.out (by omega) rfl (fun j z hz => by
      have hj : j < 1 := by simpa using (List.getElem?_eq_some_iff.1 hz).1
      obtain rfl : j = 0 := by omega
      obtain rfl : (x0 : Int) = z := by simpa using hz
      omega) _ ((hRd.out.below (bb.out.alloc bb.out.size _)).more (by have := bb.out.size; simp; omega)) (one_rd (heap1_0 w1 _) _ (by simp))).mono ?_
    rintro e w3 ⟨A1, c1, rfl, o1, b3⟩
    have X3 : Blk w3 (w.heap.size + 1) 29 #[.slice none 0 0] := (X1.out.alloc _).below b3 (X1.out.alloc _).lt
    have y1 : w3.cell? ⟨w.heap.size + 1, 0, none⟩ = some (.slice none 0 0) := X3.cells 0
    have f1 : w3.frozen? ⟨w.heap.size + 1, 0, none⟩ = false := X3.frozen 0
    have bb3 := Lib.hid ((bb.out.alloc bb.out.size (.cells #[.int .i64 (x0 : Int)] 3)).trans (b3.mono (by have := bb.out.size; simp; omega)))
    have O1 := Lib.hid o1
    clear o1 b3 X3
    go_wp2_with fail
    refine bodyPost_ret (v := .tuple #[.agg #[.slice A1 (n + 1) c1], .bool true]) (by simp [results, Try.results35, go_sem, y1]) rfl ?_
    rw [hs.out]
    refine ⟨A1, c1, by simp only [hal.out], ?_, bb3.out.setCell (p := ⟨w.heap.size + 1, 0, none⟩) (by show w.heap.size ≤ w.heap.size + 1; omega) _⟩
    simp only [hal.out]
    refine (O1.out.chg (Chg.set _ ⟨w.heap.size + 1, 0, none⟩ _) (fun b hb _ => ?_)).mono (by simp; omega)
    show ¬ b = w.heap.size + 1
    simp at hb
    omega

/-- What errors of such functions are bounded by. -/
def FitsE (q : Er) : Prop := q.length ≤ 12 ∧ SmallE q 12
theorem okErr_fits {p : Er} (h : okErr p = true) : FitsE p := ⟨((okErr_iff p).1 h).2.1, fun i s hs => ok_many h hs⟩
theorem fits_nil : FitsE [] := ⟨by simp, fun i s hs => by simp at hs⟩
theorem first_fits (p : Er) (s : En) : FitsE (firstR p s).1 := by
  unfold firstR
  cases h1 : okErr p with
  | false => exact fits_nil
  | true =>
    cases h2 : okErr (aheadE p s) with
    | false => exact fits_nil
    | true => exact okErr_fits h2
theorem wrap_fits (p : Er) (x code : Int) : FitsE (wrapR p x code).1 := first_fits _ _
end Go.Proofs.Ytkjgibhckcdneaa.ErF
