/- Ask Own, in one text. -/
import Derived.Test.YtibamnlofabdlaaM1
import Derived.Test.YtibamnlofabdlaaM3
import Derived.Test.YtibamnlofabdlaaM9
import Derived.Test.YtibamnlofabdlaaM10
import Derived.Deep.QuietTactic
/- impl.isFunction, canRun; spec.l2Ask: whether a run is asked for that there is. -/
namespace Go.Proofs.Ytibamnlofabdlaa.AskP
set_option linter.unusedVariables false
set_option linter.unusedSimpArgs false
open Go.ChangeShapes Go.WideShapes Go.ChangeAt Go.RowKit
open PL Mem To MarkP Res Prg PrgS Stp StpS

theorem isFn_eq (p : Pg) (f : Int) : isFn p f = (okProg p && inP f p.length) := by simp [isFn, inP, Bool.and_assoc]

theorem isFunction_any (B : Nat) (A : Option Addr) (n c : Nat) (p : Pg) (f : Int) (hn : n ≤ 9223372036854775807) (hl : p.length = n) (hsm : Small p 9223372036854775807) (w : World) (hr : RdP w B A p) (hB : B ≤ w.heap.size) :
    Calls Try.prog 21 #[.agg #[.slice A n c], .int .i64 f] w fun e w' => e = .returned (.bool (isFn p f)) ∧ Below w.heap.size w w' := by
  have hC := Lib.hid (fun w hr hB => isProgram_any B A n c p hn hl hsm w hr hB)
  have hR := Lib.hid hr
  have h1 : ∀ o : Obj, Below w.heap.size w (w.alloc o) := fun o => (Below.refl _ _).alloc (Nat.le_refl _) _
  have H1 := Lib.hid h1
  have hL := Lib.hid hl
  clear hr h1 hl hsm
  cases hok : okProg p with
  | false =>
    have hs := Lib.hid (show isFn p f = false by simp [isFn, hok])
    rw [hok] at hC
    clear hok
    go_enter Try.func21, Try.ntmps21
    go_wp2_with fail
    refine (hC.out _ (hR.out.below ((H1.out _).mono hB)) (Nat.le_trans hB (H1.out _).size)).mono ?_
    rintro e w1 ⟨rfl, b1⟩
    go_wp2_with fail
    go_ret
    exact ⟨by rw [hs.out]; rfl, (H1.out _).trans (b1.mono (H1.out _).size)⟩
  | true =>
    rw [hok] at hC
    have hb : ∀ w1 : World, Below (w.alloc (.cells #[.slice A n c] 31)).heap.size (w.alloc (.cells #[.slice A n c] 31)) w1 → w1.cell? ⟨w.heap.size, 0, none⟩ = some (.slice A n c) :=
      fun w1 b => (b.cell (p := ⟨w.heap.size, 0, none⟩) (by simp)).trans (by simp [go_sem])
    have HB := Lib.hid hb
    by_cases f0 : 0 ≤ f
    · by_cases fn : f < n
      · have hs := Lib.hid (show isFn p f = true by simp only [isFn, hok, hL.out, Bool.true_and, Bool.and_eq_true, decide_eq_true_eq]; exact ⟨f0, fn⟩)
        clear hok hb
        go_enter Try.func21, Try.ntmps21
        go_wp2_with fail
        refine (hC.out _ (hR.out.below ((H1.out _).mono hB)) (Nat.le_trans hB (H1.out _).size)).mono ?_
        rintro e w1 ⟨rfl, b1⟩
        have k1 := HB.out w1 b1
        go_wp2_with fail
        go_ret
        exact ⟨by rw [hs.out]; rfl, (H1.out _).trans (b1.mono (H1.out _).size)⟩
      · have hs := Lib.hid (show isFn p f = false by simp [isFn, hok, hL.out]; omega)
        have hd : decide (f < (n : Int)) = false := by simpa using fn
        clear hok hb
        go_enter Try.func21, Try.ntmps21
        go_wp2_with fail
        refine (hC.out _ (hR.out.below ((H1.out _).mono hB)) (Nat.le_trans hB (H1.out _).size)).mono ?_
        rintro e w1 ⟨rfl, b1⟩
        have k1 := HB.out w1 b1
        go_wp2_with fail
        go_ret
        exact ⟨by rw [hs.out]; rfl, (H1.out _).trans (b1.mono (H1.out _).size)⟩
    · have hs := Lib.hid (show isFn p f = false by simp [isFn, hok]; omega)
      clear hok hb
      go_enter Try.func21, Try.ntmps21
      go_wp2_with fail
      refine (hC.out _ (hR.out.below ((H1.out _).mono hB)) (Nat.le_trans hB (H1.out _).size)).mono ?_
      rintro e w1 ⟨rfl, b1⟩
      have k1 := HB.out w1 b1
      go_wp2_with fail
      go_ret
      exact ⟨by rw [hs.out]; rfl, (H1.out _).trans (b1.mono (H1.out _).size)⟩

/-! ### A body in the middle of the loop. -/

/-- A run that there is. -/
def asks (p : Pg) (f arg fuel : Int) : Bool := isFn p f && isNum arg && decide (0 ≤ fuel) && decide (fuel ≤ 200)
/-- The model's. -/
theorem asks_btw (p : Pg) (f arg fuel : Int) : asks p f arg fuel = (okProg p && inP f p.length && isNum arg && btw fuel 0 200) := by
  unfold asks
  rw [isFn_eq]
  unfold btw
  simp [Bool.and_assoc]
end Go.Proofs.Ytibamnlofabdlaa.AskP

/- spec.l2Own: the program laid anew in memory of the call's own. -/
namespace Go.Proofs.Ytibamnlofabdlaa.OwnS
set_option linter.unusedVariables false
set_option linter.unusedSimpArgs false
open Go.ChangeShapes Go.WideShapes Go.ChangeAt Go.RowKit
open PL Mem To

theorem rows_chg {C : Nat → Prop} {w w' : World} {lo k : Nat} {vals : List Value} {p : Pg} (h : RowsAt w lo k vals p) (hb : Chg C w w') (hC : ∀ (i : Nat) (u : Value) (x : Nat), vals[i]? = some u → u.ownBlock = some x → ¬ C x) : RowsAt w' lo k vals p := by
  obtain ⟨hl, hr, hs, hd⟩ := h
  refine ⟨hl, fun i xs hi hx => ?_, fun i u x hu hx => Nat.lt_of_lt_of_le (hs i u x hu hx) hb.size, hd⟩
  obtain ⟨u, hu, ho⟩ := hr i xs hi hx
  exact ⟨u, hu, own_chg ho hb (fun x hx => hC i u x hu hx)⟩
theorem rows_ne {w : World} {lo k B n : Nat} {vals : List Value} {p : Pg} {v : Value} {xs : List Value} (h : RowsAt w lo k vals p) (hk : k ≤ p.length) (ho : w.ownsRow B 43 1 v n xs) :
    ∀ (i : Nat) (u : Value) (x : Nat), vals[i]? = some u → u.ownBlock = some x → v.ownBlock ≠ some x := by
  obtain ⟨hl, hr, hs, hd⟩ := h
  intro i u x hu hx
  have hi : i < k := by have := (List.getElem?_eq_some_iff.1 hu).1; omega
  obtain ⟨u', hu', hou⟩ := hr i _ hi (List.getElem?_eq_getElem (by omega))
  obtain rfl : u = u' := by rw [hu] at hu'; simpa using hu'
  exact App.own_ne hou ho (by decide) hx
theorem cells3_one {l : List Tr} : ∀ u ∈ cells3 l, u.oneCell' = true := by
  induction l with
  | nil => intro u hu; simp [cells3] at hu
  | cons s l ih =>
    intro u hu
    rw [cells3_cons] at hu
    simp only [List.mem_cons] at hu
    rcases hu with rfl | rfl | rfl | hu
    · rfl
    · rfl
    · rfl
    · exact ih u hu
/-- What l2Own holds at the head of a round: h is its parameter's box. -/
structure At (w : World) (h n c : Nat) (A : Option Addr) (p : Pg) (k : Nat) (v : Value) (vals : List Value) (wr : World) : Prop where
  below : Below h w wr
  b0 : Blk wr h 31 #[.slice A n c]
  b1 : Blk wr (h + 1) 31 #[.slice none 0 0]
  b3 : Blk wr (h + 1 + 1 + 1) 31 #[v]
  own : wr.ownsRow h 43 1 v k vals
  rows : RowsAt wr h k vals p
theorem rows_blk_ne {w : World} {lo k g : Nat} {vals : List Value} {p : Pg} {t : TypeId} {cs : Array Value} (h : RowsAt w lo k vals p) (hk : k ≤ p.length) (hg : Blk w g t cs) (hne : 45 ≠ t) :
    ∀ (i : Nat) (u : Value) (x : Nat), vals[i]? = some u → u.ownBlock = some x → x ≠ g := by
  obtain ⟨hl, hr, hs, hd⟩ := h
  intro i u x hu hx e
  have hi : i < k := by have := (List.getElem?_eq_some_iff.1 hu).1; omega
  obtain ⟨u', hu', hou⟩ := hr i _ hi (List.getElem?_eq_getElem (by omega))
  obtain rfl : u = u' := by rw [hu] at hu'; simpa using hu'
  exact App.own_blk_ne hou hg hne (e ▸ hx)
theorem At.next {w : World} {n c : Nat} {A : Option Addr} {p : Pg} {k : Nat} {v : Value} {vals : List Value} {wr wA w2 : World} {u v2 : Value} {xs : List Tr} (X : At w w.heap.size n c A p k v vals wr) (hb : App.Bl wr wA) (hx : p[k]? = some xs)
    (o1 : wA.ownsRow wr.heap.size 45 3 u xs.length (cells3 xs)) (o2 : w2.ownsRow w.heap.size 43 1 v2 (k + 1) (vals ++ [u])) (g2 : wA.grownBy w2 v.ownBlock) :
    At w w.heap.size n c A p (k + 1) v2 (vals ++ [u]) (w2.setCell ⟨w.heap.size + 1 + 1 + 1, 0, none⟩ v2) := by
  have hk : k < p.length := (List.getElem?_eq_some_iff.1 hx).1
  have ov := own_below X.own hb (Nat.le_refl _)
  have c0 := X.b0.below hb X.b0.lt
  have c1 := X.b1.below hb X.b1.lt
  have c3 := X.b3.below hb X.b3.lt
  have chg := Chg.of_grown g2
  have d0 : Blk w2 w.heap.size _ _ := c0.chg chg (fun e => App.own_blk_ne ov c0 (by decide) e.symm)
  have d1 : Blk w2 (w.heap.size + 1) _ _ := c1.chg chg (fun e => App.own_blk_ne ov c1 (by decide) e.symm)
  have d3 : Blk w2 (w.heap.size + 1 + 1 + 1) _ _ := c3.chg chg (fun e => App.own_blk_ne ov c3 (by decide) e.symm)
  have r1 : RowsAt wA w.heap.size (k + 1) (vals ++ [u]) p := X.rows.push hb hx (own_mono o1 X.below.size) (fun x h => (o1.lt x h).1)
  have r2 := rows_chg r1 chg (fun i y x hy hyx e => rows_ne r1 (by omega) ov i y x hy hyx e.symm)
  have r3 := rows_chg r2 (Chg.set w2 ⟨w.heap.size + 1 + 1 + 1, 0, none⟩ v2) (fun i y x hy hyx e => rows_blk_ne r2 (by omega) d3 (by decide) i y x hy hyx e)
  exact ⟨((X.below.trans (Below.mono hb X.below.size)).grown g2 (Nat.le_trans X.below.size hb.size) (fun x hx => (ov.lt x hx).1)).setCell (by show w.heap.size ≤ w.heap.size + 1 + 1 + 1; omega) _,
    d0.far _ _ (by show w.heap.size ≠ w.heap.size + 1 + 1 + 1; omega), d1.far _ _ (by show w.heap.size + 1 ≠ w.heap.size + 1 + 1 + 1; omega), d3.put 0 v2, own_far o2 _ _ (App.own_blk_ne o2 d3 (by decide)), r3⟩
def Res (p : Pg) (n : Nat) (w : World) (e : Ending) (w' : World) : Prop := ∃ A' c', e = .returned (.agg #[.slice A' n c']) ∧ OwnP w' w.heap.size (.slice A' n c') p ∧ Below w.heap.size w w'
end Go.Proofs.Ytibamnlofabdlaa.OwnS
