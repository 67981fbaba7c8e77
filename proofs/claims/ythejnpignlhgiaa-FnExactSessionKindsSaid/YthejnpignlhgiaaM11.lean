import Derived.Test.YthejnpignlhgiaaM1
import Derived.Test.YthejnpignlhgiaaM3
import Derived.Test.YthejnpignlhgiaaM9
import Derived.Test.YthejnpignlhgiaaM10
import Derived.Deep.QuietTactic
set_option linter.all false
namespace Go.Proofs.Ythejnpignlhgiaa.AskP
open Lib (hid)
open Go.ChangeShapes Go.WideShapes Go.ChangeAt Go.RowKit
open PL Mem To MarkP Res Prg PrgS Stp StpS
theorem isFn_eq (p : Pg) (f : Int) : isFn p f = (okProg p && inP f p.length) := by simp [isFn, inP, Bool.and_assoc]
theorem isFunction_any (B : Nat) (A : Option Addr) (n c : Nat) (p : Pg) (f : Int) (hn : n ≤ 9223372036854775807) (hl : p.length = n) (hsm : Small p 9223372036854775807) (w : World) (hr : RdP w B A p) (hB : B ≤ w.heap.size) :
  Calls Try.prog 103 #[.agg #[.slice A n c], .int .i64 f] w fun e w' => e = .returned (.bool (isFn p f)) ∧ Below w.heap.size w w' := by
 have hC := hid (fun w hr hB => isProgram_any B A n c p hn hl hsm w hr hB)
 have hR := hid hr
 have h1 : ∀ o : Obj, Below w.heap.size w (w.alloc o) := fun o => (Below.refl _ _).alloc (Nat.le_refl _) _
 have H1 := hid h1
 have hL := hid hl
 clear hr h1 hl hsm
 cases hok : okProg p with
 | false =>
  have hs := hid (show isFn p f = false by simp [isFn, hok])
  rw [hok] at hC
  clear hok
  go_enter Try.func103, Try.ntmps103
  go_wp2_with fail
  refine (hC.out _ (hR.out.below ((H1.out _).mono hB)) (Nat.le_trans hB (H1.out _).size)).mono ?_
  rintro e w1 ⟨rfl, b1⟩
  go_wp2_with fail
  go_ret
  exact ⟨by rw [hs.out]; rfl, (H1.out _).trans (b1.mono (H1.out _).size)⟩
 | true =>
  rw [hok] at hC
  have hb : ∀ w1 : World, Below (w.alloc (.cells #[.slice A n c] 35)).heap.size (w.alloc (.cells #[.slice A n c] 35)) w1 → w1.cell? ⟨w.heap.size, 0, none⟩ = some (.slice A n c) :=
   fun w1 b => (b.cell (p := ⟨w.heap.size, 0, none⟩) (by simp)).trans (by simp [go_sem])
  have HB := hid hb
  by_cases f0 : 0 ≤ f
  ·by_cases fn : f < n
   ·have hs := hid (show isFn p f = true by simp only [isFn, hok, hL.out, Bool.true_and, Bool.and_eq_true, decide_eq_true_eq]; exact ⟨f0, fn⟩)
    clear hok hb
    go_enter Try.func103, Try.ntmps103
    go_wp2_with fail
    refine (hC.out _ (hR.out.below ((H1.out _).mono hB)) (Nat.le_trans hB (H1.out _).size)).mono ?_
    rintro e w1 ⟨rfl, b1⟩
    have k1 := HB.out w1 b1
    go_wp2_with fail
    go_ret
    exact ⟨by rw [hs.out]; rfl, (H1.out _).trans (b1.mono (H1.out _).size)⟩
   ·have hs := hid (show isFn p f = false by simp [isFn, hok, hL.out]; omega)
    have hd : decide (f < (n : Int)) = false := by simpa using fn
    clear hok hb
    go_enter Try.func103, Try.ntmps103
    go_wp2_with fail
    refine (hC.out _ (hR.out.below ((H1.out _).mono hB)) (Nat.le_trans hB (H1.out _).size)).mono ?_
    rintro e w1 ⟨rfl, b1⟩
    have k1 := HB.out w1 b1
    go_wp2_with fail
    go_ret
    exact ⟨by rw [hs.out]; rfl, (H1.out _).trans (b1.mono (H1.out _).size)⟩
  ·have hs := hid (show isFn p f = false by simp [isFn, hok]; omega)
   clear hok hb
   go_enter Try.func103, Try.ntmps103
   go_wp2_with fail
   refine (hC.out _ (hR.out.below ((H1.out _).mono hB)) (Nat.le_trans hB (H1.out _).size)).mono ?_
   rintro e w1 ⟨rfl, b1⟩
   have k1 := HB.out w1 b1
   go_wp2_with fail
   go_ret
   exact ⟨by rw [hs.out]; rfl, (H1.out _).trans (b1.mono (H1.out _).size)⟩
def asks (p : Pg) (f arg fuel : Int) : Bool := isFn p f && isNum arg && decide (0 ≤ fuel) && decide (fuel ≤ 200)
theorem canRun_any (B : Nat) (A : Option Addr) (n c : Nat) (p : Pg) (f arg fuel : Int) (hn : n ≤ 9223372036854775807) (hl : p.length = n) (hsm : Small p 9223372036854775807) (w : World) (hr : RdP w B A p) (hB : B ≤ w.heap.size) :
  Calls Try.prog 80 #[.agg #[.slice A n c], .int .i64 f, .int .i64 arg, .int .i64 fuel] w fun e w' => e = .returned (.bool (asks p f arg fuel)) ∧ Below w.heap.size w w' := by
 have hF := hid (fun W (h : Below w.heap.size w W) => isFunction_any B A n c p f hn hl hsm W (hr.below (h.mono hB)) (Nat.le_trans hB h.size))
 have H1 := hid (fun o : Obj => (show Below w.heap.size w (w.alloc o) from (Below.refl _ _).alloc (Nat.le_refl _) _))
 clear hr
 cases h1 : isFn p f with
 | false =>
  have hs := hid (show asks p f arg fuel = false by simp [asks, h1])
  rw [h1] at hF
  clear h1
  go_enter Try.func80, Try.ntmps80
  go_wp2_with fail
  refine (hF.out _ (H1.out _)).mono ?_
  rintro e w1 ⟨rfl, b1⟩
  go_wp2_with fail
  go_ret
  exact ⟨by rw [hs.out]; rfl, (H1.out _).trans (b1.mono (by simp))⟩
 | true =>
  rw [h1] at hF
  cases h2 : isNum arg with
  | false =>
   have hs := hid (show asks p f arg fuel = false by simp [asks, h2])
   have hN := hid (fun W => isNumber_any arg W)
   rw [h2] at hN
   clear h1 h2
   go_enter Try.func80, Try.ntmps80
   go_wp2_with fail
   refine (hF.out _ (H1.out _)).mono ?_
   rintro e w1 ⟨rfl, b1⟩
   go_wp2_with fail
   refine (hN.out _).mono ?_
   rintro e w2 ⟨rfl, rfl⟩
   go_wp2_with fail
   go_ret
   exact ⟨by rw [hs.out]; rfl, (H1.out _).trans (b1.mono (by simp))⟩
  | true =>
   have hN := hid (fun W => isNumber_any arg W)
   rw [h2] at hN
   by_cases h3 : 0 ≤ fuel
   ·by_cases h4 : fuel ≤ 200
    ·have hs := hid (show asks p f arg fuel = true by simp [asks, h1, h2, h3, h4])
     clear h1 h2
     go_enter Try.func80, Try.ntmps80
     go_wp2_with fail
     refine (hF.out _ (H1.out _)).mono ?_
     rintro e w1 ⟨rfl, b1⟩
     go_wp2_with fail
     refine (hN.out _).mono ?_
     rintro e w2 ⟨rfl, rfl⟩
     go_wp2_with fail
     go_ret
     exact ⟨by rw [hs.out]; rfl, (H1.out _).trans (b1.mono (by simp))⟩
    ·have hs := hid (show asks p f arg fuel = false by simp [asks]; intros; omega)
     have h5 : decide (fuel ≤ 200) = false := by simpa using h4
     clear h1 h2
     go_enter Try.func80, Try.ntmps80
     go_wp2_with fail
     refine (hF.out _ (H1.out _)).mono ?_
     rintro e w1 ⟨rfl, b1⟩
     go_wp2_with fail
     refine (hN.out _).mono ?_
     rintro e w2 ⟨rfl, rfl⟩
     go_wp2_with fail
     go_ret
     exact ⟨by rw [hs.out]; rfl, (H1.out _).trans (b1.mono (by simp))⟩
   ·have hs := hid (show asks p f arg fuel = false by simp [asks]; intros; omega)
    have h4 : decide (0 ≤ fuel) = false := by simpa using h3
    clear h1 h2
    go_enter Try.func80, Try.ntmps80
    go_wp2_with fail
    refine (hF.out _ (H1.out _)).mono ?_
    rintro e w1 ⟨rfl, b1⟩
    go_wp2_with fail
    refine (hN.out _).mono ?_
    rintro e w2 ⟨rfl, rfl⟩
    go_wp2_with fail
    go_ret
    exact ⟨by rw [hs.out]; rfl, (H1.out _).trans (b1.mono (by simp))⟩
theorem asks_btw (p : Pg) (f arg fuel : Int) : asks p f arg fuel = (okProg p && inP f p.length && isNum arg && btw fuel 0 200) := by
 unfold asks
 rw [isFn_eq]
 unfold btw
 simp [Bool.and_assoc]
theorem l2Ask_any (B : Nat) (A : Option Addr) (n c : Nat) (p : Pg) (f arg fuel : Int) (hn : n ≤ 9223372036854775807) (hl : p.length = n) (hsm : Small p 9223372036854775807) (w : World) (hr : RdP w B A p) (hB : B ≤ w.heap.size) :
  Calls Try.prog 69 #[.agg #[.slice A n c], .int .i64 f, .int .i64 arg, .int .i64 fuel] w fun e w' => e = .returned (.bool (asks p f arg fuel)) ∧ Below w.heap.size w w' := by
 have hP := hid (fun W (h : Below w.heap.size w W) => l2Program_any B A n c p hn hl hsm W (hr.below (h.mono hB)) (Nat.le_trans hB h.size))
 have hF := hid (fun W => l2Function_any A n c f hn W)
 have hN := hid (fun W => l2Number_any arg W)
 have hI := hid (fun W => l1In_any fuel 0 200 W)
 have H1 := hid (fun o : Obj => (show Below w.heap.size w (w.alloc o) from (Below.refl _ _).alloc (Nat.le_refl _) _))
 have hs := asks_btw p f arg fuel
 rw [hl] at hs
 generalize asks p f arg fuel = R at *
 have z0 : (w.alloc (.cells #[.slice A n c] 35)).cell? ⟨w.heap.size, 0, none⟩ = some (.slice A n c) := cell_of_row _ _ 0 _ _ (0, 0) (heap1_0 w _)
 have hkeep : ∀ W, Below (w.alloc (.cells #[.slice A n c] 35)).heap.size (w.alloc (.cells #[.slice A n c] 35)) W → W.cell? ⟨w.heap.size, 0, none⟩ = some (.slice A n c) := fun W h => (h.cell (by show w.heap.size < _; simp)).trans z0
 have HK := hid hkeep
 clear hr hl hsm hkeep z0
 cases h1 : okProg p with
 | false =>
  rw [h1] at hs hP
  have HS := hid (show R = false by rw [hs]; rfl)
  clear hs h1
  go_enter Try.func69, Try.ntmps69
  go_wp2_with fail
  refine (hP.out _ (H1.out _)).mono ?_
  rintro e w1 ⟨rfl, b1⟩
  go_wp2_with fail
  go_ret
  exact ⟨by rw [HS.out]; rfl, (H1.out _).trans (b1.mono (by simp))⟩
 | true =>
  rw [h1] at hs hP
  cases h2 : inP f n with
  | false =>
   rw [h2] at hs hF
   have HS := hid (show R = false by rw [hs]; rfl)
   clear hs h1 h2
   go_enter Try.func69, Try.ntmps69
   go_wp2_with fail
   refine (hP.out _ (H1.out _)).mono ?_
   rintro e w1 ⟨rfl, b1⟩
   have k1 := HK.out w1 b1
   go_wp2_with fail
   refine (hF.out _).mono ?_
   rintro e w2 ⟨rfl, rfl⟩
   go_wp2_with fail
   go_ret
   exact ⟨by rw [HS.out]; rfl, ((H1.out _).trans (b1.mono (by simp))).alloc (by have := b1.size; simp at this; omega) _⟩
  | true =>
   rw [h2] at hs hF
   cases h3 : isNum arg with
   | false =>
    rw [h3] at hs hN
    have HS := hid (show R = false by rw [hs]; rfl)
    clear hs h1 h2 h3
    go_enter Try.func69, Try.ntmps69
    go_wp2_with fail
    refine (hP.out _ (H1.out _)).mono ?_
    rintro e w1 ⟨rfl, b1⟩
    have k1 := HK.out w1 b1
    go_wp2_with fail
    refine (hF.out _).mono ?_
    rintro e w2 ⟨rfl, rfl⟩
    go_wp2_with fail
    refine (hN.out _).mono ?_
    rintro e w2 ⟨rfl, rfl⟩
    go_wp2_with fail
    go_ret
    exact ⟨by rw [HS.out]; rfl, ((H1.out _).trans (b1.mono (by simp))).alloc (by have := b1.size; simp at this; omega) _⟩
   | true =>
    rw [h3] at hs hN
    have HS := hid (show R = btw fuel 0 200 by rw [hs]; rfl)
    clear hs h1 h2 h3
    go_enter Try.func69, Try.ntmps69
    go_wp2_with fail
    refine (hP.out _ (H1.out _)).mono ?_
    rintro e w1 ⟨rfl, b1⟩
    have k1 := HK.out w1 b1
    go_wp2_with fail
    refine (hF.out _).mono ?_
    rintro e w2 ⟨rfl, rfl⟩
    go_wp2_with fail
    refine (hN.out _).mono ?_
    rintro e w2 ⟨rfl, rfl⟩
    go_wp2_with fail
    refine (hI.out _).mono ?_
    rintro e w2 ⟨rfl, rfl⟩
    go_wp2_with fail
    go_ret
    exact ⟨by rw [HS.out]; rfl, ((H1.out _).trans (b1.mono (by simp))).alloc (by have := b1.size; simp at this; omega) _⟩
end Go.Proofs.Ythejnpignlhgiaa.AskP

namespace Go.Proofs.Ythejnpignlhgiaa.OwnS
open Lib (hid)
open Go.ChangeShapes Go.WideShapes Go.ChangeAt Go.RowKit
open PL Mem To
theorem rows_chg {C : Nat → Prop} {w w' : World} {lo k : Nat} {vals : List Value} {p : Pg} (h : RowsAt w lo k vals p) (hb : Chg C w w') (hC : ∀ (i : Nat) (u : Value) (x : Nat), vals[i]? = some u → u.ownBlock = some x → ¬ C x) : RowsAt w' lo k vals p := by
 obtain ⟨hl, hr, hs, hd⟩ := h
 refine ⟨hl, fun i xs hi hx => ?_, fun i u x hu hx => Nat.lt_of_lt_of_le (hs i u x hu hx) hb.size, hd⟩
 obtain ⟨u, hu, ho⟩ := hr i xs hi hx
 exact ⟨u, hu, own_chg ho hb (fun x hx => hC i u x hu hx)⟩
theorem rows_ne {w : World} {lo k B n : Nat} {vals : List Value} {p : Pg} {v : Value} {xs : List Value} (h : RowsAt w lo k vals p) (hk : k ≤ p.length) (ho : w.ownsRow B 136 1 v n xs) :
  ∀ (i : Nat) (u : Value) (x : Nat), vals[i]? = some u → u.ownBlock = some x → v.ownBlock ≠ some x := by
 obtain ⟨hl, hr, hs, hd⟩ := h
 intro i u x hu hx
 have hi : i < k := by have := (List.getElem?_eq_some_iff.1 hu).1; omega
 obtain ⟨u', hu', hou⟩ := hr i _ hi (List.getElem?_eq_getElem (by omega))
 obtain rfl : u = u' := by rw [hu] at hu'; simpa using hu'
 exact App.own_ne hou ho (by decide) hx
theorem cells3_one {l : List Tr} : ∀ u ∈ cells3 l, u.oneCell' = true := by
 induction l with
 | nil => intro u hu; simp [cells3] at hu
 | cons s l ih =>
  intro u hu
  rw [cells3_cons] at hu
  simp only [List.mem_cons] at hu
  rcases hu with rfl | rfl | rfl | hu
  ·rfl
  ·rfl
  ·rfl
  ·exact ih u hu
structure At (w : World) (h n c : Nat) (A : Option Addr) (p : Pg) (k : Nat) (v : Value) (vals : List Value) (wr : World) : Prop where
 below : Below h w wr
 b0 : Blk wr h 35 #[.slice A n c]
 b1 : Blk wr (h + 1) 35 #[.slice none 0 0]
 b3 : Blk wr (h + 1 + 1 + 1) 35 #[v]
 own : wr.ownsRow h 136 1 v k vals
 rows : RowsAt wr h k vals p
theorem rows_blk_ne {w : World} {lo k g : Nat} {vals : List Value} {p : Pg} {t : TypeId} {cs : Array Value} (h : RowsAt w lo k vals p) (hk : k ≤ p.length) (hg : Blk w g t cs) (hne : 139 ≠ t) :
  ∀ (i : Nat) (u : Value) (x : Nat), vals[i]? = some u → u.ownBlock = some x → x ≠ g := by
 obtain ⟨hl, hr, hs, hd⟩ := h
 intro i u x hu hx e
 have hi : i < k := by have := (List.getElem?_eq_some_iff.1 hu).1; omega
 obtain ⟨u', hu', hou⟩ := hr i _ hi (List.getElem?_eq_getElem (by omega))
 obtain rfl : u = u' := by rw [hu] at hu'; simpa using hu'
 exact App.own_blk_ne hou hg hne (e ▸ hx)
theorem At.next {w : World} {n c : Nat} {A : Option Addr} {p : Pg} {k : Nat} {v : Value} {vals : List Value} {wr wA w2 : World} {u v2 : Value} {xs : List Tr} (X : At w w.heap.size n c A p k v vals wr) (hb : App.Bl wr wA) (hx : p[k]? = some xs)
  (o1 : wA.ownsRow wr.heap.size 139 3 u xs.length (cells3 xs)) (o2 : w2.ownsRow w.heap.size 136 1 v2 (k + 1) (vals ++ [u])) (g2 : wA.grownBy w2 v.ownBlock) :
  At w w.heap.size n c A p (k + 1) v2 (vals ++ [u]) (w2.setCell ⟨w.heap.size + 1 + 1 + 1, 0, none⟩ v2) := by
 have hk : k < p.length := (List.getElem?_eq_some_iff.1 hx).1
 have ov := own_below X.own hb (Nat.le_refl _)
 have c0 := X.b0.below hb X.b0.lt
 have c1 := X.b1.below hb X.b1.lt
 have c3 := X.b3.below hb X.b3.lt
 have chg := Chg.of_grown g2
 have d0 : Blk w2 w.heap.size _ _ := c0.chg chg (fun e => App.own_blk_ne ov c0 (by decide) e.symm)
 have d1 : Blk w2 (w.heap.size + 1) _ _ := c1.chg chg (fun e => App.own_blk_ne ov c1 (by decide) e.symm)
 have d3 : Blk w2 (w.heap.size + 1 + 1 + 1) _ _ := c3.chg chg (fun e => App.own_blk_ne ov c3 (by decide) e.symm)
 have r1 : RowsAt wA w.heap.size (k + 1) (vals ++ [u]) p := X.rows.push hb hx (own_mono o1 X.below.size) (fun x h => (o1.lt x h).1)
 have r2 := rows_chg r1 chg (fun i y x hy hyx e => rows_ne r1 (by omega) ov i y x hy hyx e.symm)
 have r3 := rows_chg r2 (Chg.set w2 ⟨w.heap.size + 1 + 1 + 1, 0, none⟩ v2) (fun i y x hy hyx e => rows_blk_ne r2 (by omega) d3 (by decide) i y x hy hyx e)
 exact ⟨((X.below.trans (Below.mono hb X.below.size)).grown g2 (Nat.le_trans X.below.size hb.size) (fun x hx => (ov.lt x hx).1)).setCell (by show w.heap.size ≤ w.heap.size + 1 + 1 + 1; omega) _,
  d0.far _ _ (by show w.heap.size ≠ w.heap.size + 1 + 1 + 1; omega), d1.far _ _ (by show w.heap.size + 1 ≠ w.heap.size + 1 + 1 + 1; omega), d3.put 0 v2, own_far o2 _ _ (App.own_blk_ne o2 d3 (by decide)), r3⟩
def Res (p : Pg) (n : Nat) (w : World) (e : Ending) (w' : World) : Prop := ∃ A' c', e = .returned (.agg #[.slice A' n c']) ∧ OwnP w' w.heap.size (.slice A' n c') p ∧ Below w.heap.size w w'
set_option maxHeartbeats 2000000 in
theorem l2Own_any (lo n c : Nat) (A : Option Addr) (p : Pg) (hn : n ≤ 100) (hl : p.length = n) (hsm : Small p 100) (w : World) (ho : OwnP w lo (.slice A n c) p) :
  Calls Try.prog 110 #[.agg #[.slice A n c]] w (Res p n w) := by
 obtain ⟨i0, hi, hz0, hz1, hz2⟩ := info_parts infoStep
 obtain ⟨j0, hj, hy0, hy1, hy2⟩ := info_parts infoSteps
 have hO := hid ho
 have hL := hid hl
 have hS := hid hsm
 clear ho hl hsm
 go_enter Try.func110, Try.ntmps110
 go_wp2
 go_loopw [4] (fun f wr => ∃ (k : Nat) (v : Value) (vals : List Value), k ≤ n ∧ f = .int .i64 k ∧ At w w.heap.size n c A p k v vals wr) (fun f _ => n - (intOf f).toNat)
 case atStart =>
  refine ⟨0, .slice (some ⟨w.heap.size + 1 + 1, 0, none⟩) 0 0, [], Nat.zero_le _, rfl, ?_, heap4_0 _ _ _ _ _, heap4_1 _ _ _ _ _, heap4_3 _ _ _ _ _, App.empty_own (heap4_2 _ _ _ _ _) (by omega), RowsAt.zero _ _ _⟩
  exact ((((Below.refl _ _).alloc (Nat.le_refl _) _).alloc (by simp) _).alloc (by simp; omega) _).alloc (by simp; omega) _
 case round =>
  obtain ⟨k, v, vals, hk, rfl, hat⟩ := hrel
  obtain ⟨Av, cv, rfl⟩ := own_slice hat.own
  have X := hid hat
  have z0 : wr.cell? ⟨w.heap.size, 0, none⟩ = some (.slice A n c) := hat.b0.cells 0
  have z3 : wr.cell? ⟨w.heap.size + 1 + 1 + 1, 0, none⟩ = some (.slice Av k cv) := hat.b3.cells 0
  have z1 : wr.cell? ⟨w.heap.size + 1, 0, none⟩ = some (.slice none 0 0) := hat.b1.cells 0
  have f3 := hat.b3.frozen 0
  have f1 := hat.b1.frozen 0
  have s3 := hat.b3.lt
  clear hat
  by_cases hlt : k < n
  ·obtain ⟨xs, hs⟩ : ∃ s, p[k]? = some s := ⟨_, List.getElem?_eq_getElem (by rw [hL.out]; exact hlt)⟩
   have hxn := hS.out k xs hs
   have HS := hid hs
   obtain ⟨g, Ai, ci, rfl, hc, hrow⟩ : ∃ g Ai ci, A = some ⟨g, 0, none⟩ ∧ w.cell? ⟨g, k, none⟩ = some (.slice Ai xs.length ci) ∧ w.ownsRow lo 139 3 (.slice Ai xs.length ci) xs.length (cells3 xs) := by
    obtain ⟨vs, h1, h2, h3, _⟩ := hO.out
    obtain ⟨u, hu, hou⟩ := h3 k xs hs
    obtain ⟨Ai, ci, rfl⟩ := own_slice hou
    rcases own_form h2 with ⟨h0, _⟩ | ⟨_, g, cap, hv, _, _⟩
    ·have := hL.out; omega
    ·simp only [Value.slice.injEq] at hv
     obtain ⟨rfl, hv1, rfl⟩ := hv
     rw [hv1] at h2
     have hce := h2.cellAt (g := g) k (by have := hL.out; omega)
     exact ⟨g, Ai, ci, rfl, hce.trans hu, hou⟩
   have hgl : g < w.heap.size := World.block_lt_of_cell? w _ hc
   have hcr : wr.cell? ⟨g, k, none⟩ = some (.slice Ai xs.length ci) := (X.out.below.cell (p := ⟨g, k, none⟩) hgl).trans hc
   have HR := hid (own_below hrow X.out.below (Nat.le_refl _))
   have hx := hid (fun (V : World) (h : App.Bl wr V) => (show V.cell? ⟨w.heap.size + 1 + 1 + 1, 0, none⟩ = some (.slice Av k cv) ∧ V.cell? ⟨w.heap.size, 0, none⟩ = some (.slice (some ⟨g, 0, none⟩) n c) ∧ V.cell? ⟨g, k, none⟩ = some (.slice Ai xs.length ci) from
    ⟨(Below.cell h (show w.heap.size + 1 + 1 + 1 < wr.heap.size by omega)).trans z3, (Below.cell h (show w.heap.size < wr.heap.size by omega)).trans z0, (Below.cell h (show g < wr.heap.size by omega)).trans hcr⟩))
   clear hs hc hrow
   go_wp2_with fail
   have S0 := hx.out wr.drew (App.Bl.refl _).drew
   refine Last.region_last 12 (fun V => V.cell? ⟨w.heap.size + 1 + 1 + 1, 0, none⟩ = some (.slice Av k cv) ∧ V.cell? ⟨w.heap.size, 0, none⟩ = some (.slice (some ⟨g, 0, none⟩) n c) ∧ V.cell? ⟨g, k, none⟩ = some (.slice Ai xs.length ci)) (by kernel_rfl) ?_
   refine Last.last_take (i := 0) (d := some 14) (v := ?v0) rfl rfl (by kernel_rfl) (by kernel_rfl) (by kernel_rfl) (fun _ _ _ h => h) rfl (by kernel_rfl) (by kernel_rfl) rfl ?y0 S0 ?r0
   case y0 => (intro V hV; (try dsimp only at hV); go_simp; try with_reducible rfl)
   simp only [Act.put, List.setIfInBounds_toArray, List.set_cons_zero, List.set_cons_succ]
   refine Last.last_take (i := 1) (d := some 15) (v := ?v1) rfl rfl (by kernel_rfl) (by kernel_rfl) (by kernel_rfl) (fun _ _ _ h => h) rfl (by kernel_rfl) (by kernel_rfl) rfl ?y1 S0 ?r1
   case y1 => (intro V hV; (try dsimp only at hV); go_simp; try with_reducible rfl)
   simp only [Act.put, List.setIfInBounds_toArray, List.set_cons_zero, List.set_cons_succ]
   refine Last.last_take (i := 3) (d := some 17) (v := ?v3) rfl rfl (by kernel_rfl) (by kernel_rfl) (by kernel_rfl) (fun _ _ _ h => h) rfl (by kernel_rfl) (by kernel_rfl) rfl ?y3 S0 ?r3
   case y3 => (intro V hV; (try dsimp only at hV); go_simp; try with_reducible rfl)
   simp only [Act.put, List.setIfInBounds_toArray, List.set_cons_zero, List.set_cons_succ]
   refine Last.last_take (i := 4) (d := some 18) (v := ?v4) rfl rfl (by kernel_rfl) (by kernel_rfl) (by kernel_rfl) (fun _ _ _ h => h) rfl (by kernel_rfl) (by kernel_rfl) rfl ?y4 S0 ?r4
   case y4 => (intro V hV; (try dsimp only at hV); go_simp; try with_reducible rfl)
   simp only [Act.put, List.setIfInBounds_toArray, List.set_cons_zero, List.set_cons_succ]
   refine Last.last_take (i := 5) (d := some 19) (v := ?v5) rfl rfl (by kernel_rfl) (by kernel_rfl) (by kernel_rfl) (fun _ _ _ h => h) rfl (by kernel_rfl) (by kernel_rfl) rfl ?y5 S0 ?r5
   case y5 => (intro V hV; (try dsimp only at hV); go_simp; try with_reducible rfl)
   simp only [Act.put, List.setIfInBounds_toArray, List.set_cons_zero, List.set_cons_succ]
   refine Last.last_take (i := 6) (d := some 20) (v := ?v6) rfl rfl (by kernel_rfl) (by kernel_rfl) (by kernel_rfl) (fun _ _ _ h => h) rfl (by kernel_rfl) (by kernel_rfl) rfl ?y6 S0 ?r6
   case y6 => (intro V hV; (try dsimp only at hV); go_simp; try with_reducible rfl)
   simp only [Act.put, List.setIfInBounds_toArray, List.set_cons_zero, List.set_cons_succ]
   refine Last.last_take (i := 7) (d := some 21) (v := ?v7) rfl rfl (by kernel_rfl) (by kernel_rfl) (by kernel_rfl) (fun _ _ _ h => h) rfl (by kernel_rfl) (by kernel_rfl) rfl ?y7 S0 ?r7
   case y7 => (intro V hV; (try dsimp only at hV); go_simp; try with_reducible rfl)
   simp only [Act.put, List.setIfInBounds_toArray, List.set_cons_zero, List.set_cons_succ]
   refine Last.last_one (i := 2) (o := { dst := some 16, op := .buildSlice 136 0 #[], type := 136, pos := _, after := _, guard := none }) (by kernel_rfl) rfl rfl (fun K hK => ?_)
   go_simp
   refine hK.out _ _ (fun _ => hx.out _ ((App.Bl.refl _).alloc _).drew) ?_
   clear hK K S0
   refine Last.last_one (i := 8) (o := { dst := some 22, op := .call { callee := .builtin .append, args := #[.tmp 16, .tmp 21], argTypes := #[136, 136] }, type := 136, pos := _, after := _, guard := none }) (by kernel_rfl) rfl rfl (fun K hK => ?_)
   refine App.row_wp _ (.tmp 16) (.tmp 21) 136 rfl wr.heap.size lo 139 i0 _ 3 24 Try.underlying136 hi hz0 hz1 hz2 rfl (by decide) (.slice (some ⟨wr.heap.size, 0, none⟩) 0 0) 0 [] rfl (App.empty_own (heap1_0 wr _) (Nat.le_refl _)) (.slice Ai xs.length ci) xs.length (cells3 xs) rfl
    (own_below HR.out ((App.Bl.refl wr).alloc _).drew (Nat.le_refl _)) cells3_one (by unfold maxLen; omega) (by omega) (by simp) ?_
   intro v1 w1 o1 g1 t1
   have B1 : App.Bl wr w1 := (((App.Bl.refl wr).alloc _).drew).grown g1 (fun x hx => Nat.le_of_eq (by simpa [Value.ownBlock] using hx))
   clear g1 t1
   rw [Nat.zero_add, List.nil_append] at o1
   obtain ⟨A1, c1, rfl⟩ := own_slice o1
   refine hK.out _ _ (fun _ => hx.out _ B1) ?_
   clear hK K
   simp only [Act.put, List.setIfInBounds_toArray, List.set_cons_zero, List.set_cons_succ]
   refine Last.last_one (i := 9) (o := { dst := some 23, op := .buildSlice 33 1 #[(0, .tmp 22)], type := 33, pos := _, after := _, guard := none }) (by kernel_rfl) rfl rfl (fun K hK => ?_)
   go_simp
   have B2 := B1.alloc (.cells #[.slice A1 xs.length c1] 136)
   refine hK.out _ _ (fun _ => hx.out _ B2) ?_
   clear hK K
   refine Last.last_one (i := 10) (o := { dst := some 24, op := .call { callee := .builtin .append, args := #[.tmp 15, .tmp 23], argTypes := #[33, 33] }, type := 33, pos := _, after := _, guard := none }) (by kernel_rfl) rfl rfl (fun K hK => ?_)
   refine App.row_wp _ (.tmp 15) (.tmp 23) 33 rfl w.heap.size 0 136 j0 _ 1 24 Try.underlying33 hj hy0 hy1 hy2 rfl (by decide) (.slice Av k cv) k vals rfl (own_below X.out.own B2 (Nat.le_refl _)) (.slice (some ⟨w1.heap.size, 0, none⟩) 1 1) 1 [.slice A1 xs.length c1] rfl
    (App.one_own (heap1_0 w1 _)) (by intro u hu; simp at hu; subst hu; rfl) (by unfold maxLen; omega) (by omega) (Nat.le_trans X.out.below.size B2.size) ?_
   intro v2 w2 o2 g2 t2
   have N := hid (X.out.next B2 HS.out (o1.alloc _) o2 g2)
   obtain ⟨A2, c2, rfl⟩ := own_slice o2
   have ov := own_below X.out.own B2 (Nat.le_refl _)
   have d3 := (X.out.b3.below B2 X.out.b3.lt).chg (Chg.of_grown g2) (fun e => App.own_blk_ne ov (X.out.b3.below B2 X.out.b3.lt) (by decide) e.symm)
   have kc : w2.cell? ⟨w.heap.size + 1 + 1 + 1, 0, none⟩ = some (.slice Av k cv) := d3.cells 0
   have kf := d3.frozen 0
   have d0 := (X.out.b0.below B2 X.out.b0.lt).chg (Chg.of_grown g2) (fun e => App.own_blk_ne ov (X.out.b0.below B2 X.out.b0.lt) (by decide) e.symm)
   have gc : w2.cell? ⟨g, k, none⟩ = some (.slice Ai xs.length ci) := by
    refine (World.cell?_of_block (g2.block g (Nat.lt_of_lt_of_le (Nat.lt_of_lt_of_le hgl X.out.below.size) B2.size) (fun e => ?_))).trans (hx.out _ B2).2.2
    have := (ov.lt g e.symm).1
    omega
   clear g2 t2 ov o2 o1
   have S2 := hid (show w2.cell? ⟨w.heap.size + 1 + 1 + 1, 0, none⟩ = some (.slice Av k cv) ∧ w2.cell? ⟨w.heap.size, 0, none⟩ = some (.slice (some ⟨g, 0, none⟩) n c) ∧ w2.cell? ⟨g, k, none⟩ = some (.slice Ai xs.length ci) from ⟨kc, d0.cells 0, gc⟩)
   refine hK.out _ _ (fun _ => S2.out) ?_
   clear hK K d0 d3 gc
   simp only [Act.put, List.setIfInBounds_toArray, List.set_cons_zero, List.set_cons_succ]
   refine Last.last_one (i := 11) (o := { dst := some 25, op := .fieldAddr 35 (.tmp 3) 0, type := 0, pos := _, after := _, guard := none }) (by kernel_rfl) rfl rfl (fun K hK => ?_)
   go_simp
   refine hK.out _ _ (fun _ => S2.out) ?_
   clear hK K S2
   refine Last.last_one (i := 12) (o := { dst := none, op := .store 33 (.tmp 25) (.tmp 24), type := 0, pos := _, after := _, guard := none }) (by kernel_rfl) rfl rfl (fun K hK => ?_)
   go_simp
   refine hK.out _ _ (fun h => absurd rfl h) ?_
   clear hK K kc kf
   refine Last.last_done (by kernel_rfl) ?_ _
   go_wp2_with fail
   go_roundw
   case rel => exact ⟨k + 1, _, _, by omega, by go_num, N.out⟩
   case measure => simp [intOf]; omega
  ·obtain rfl : k = n := by omega
   clear z3 z0 z1 f1 f3
   have z0 : wr.cell? ⟨w.heap.size, 0, none⟩ = some (.slice A k c) := X.out.b0.cells 0
   have z3 : wr.cell? ⟨w.heap.size + 1 + 1 + 1, 0, none⟩ = some (.slice Av k cv) := X.out.b3.cells 0
   have z1 : wr.cell? ⟨w.heap.size + 1, 0, none⟩ = some (.slice none 0 0) := X.out.b1.cells 0
   have f1 := X.out.b1.frozen 0
   go_wp2
   exact bodyPost_ret (v := .agg #[.slice Av k cv]) (by simp [results, Try.results110, go_sem, z1, z3]) rfl ⟨Av, cv, rfl, by
    have e := hL.out
    subst e
    exact RowsAt.own (rows_chg X.out.rows (Chg.set wr ⟨w.heap.size + 1, 0, none⟩ (.slice Av p.length cv)) (fun i y x hy hyx e => rows_blk_ne X.out.rows (Nat.le_refl _) X.out.b1 (by decide) i y x hy hyx e)) (Nat.le_refl _) (own_far X.out.own ⟨w.heap.size + 1, 0, none⟩ _ (App.own_blk_ne X.out.own X.out.b1 (by decide))), X.out.below.setCell (by show w.heap.size ≤ w.heap.size + 1; omega) _⟩
end Go.Proofs.Ythejnpignlhgiaa.OwnS
