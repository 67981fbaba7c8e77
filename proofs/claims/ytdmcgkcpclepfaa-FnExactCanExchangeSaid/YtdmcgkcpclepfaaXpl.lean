import Derived.Test.YtdmcgkcpclepfaaXcp
import Derived.Test.YtdmcgkcpclepfaaAsk
import Derived.Test.YtdmcgkcpclepfaaSst
set_option linter.all false
namespace Go.Proofs.Ytdmcgkcpclepfaa.Xpl
open Lib (hid)
open Go.ChangeShapes Go.WideShapes Go.ChangeAt Go.RowKit
open PL Mem Sst To AskP StpS Res Prg PrgS Xcp
theorem l9Place_any (n c : Nat) (A : Option Addr) (p : Pg) (f k : Int) (hn : n ≤ 9223372036854775807) (hl : p.length = n) (hsm : Small p 9223372036854775807) (w : World) (hr : RdP w w.heap.size A p) :
  Calls Try.prog 52 #[.agg #[.slice A n c], .int .i64 f, .int .i64 k] w fun e w' => e = .returned (.bool (isPlace p f k)) ∧ Below w.heap.size w w' := by
 have hP := hid (fun W (h : Below w.heap.size w W) => l2Program_any w.heap.size A n c p hn hl hsm W (hr.below h) h.size)
 have hF := hid (fun W => l2Function_any A n c f hn W)
 have HRW := hid (fun (i : Nat) (xs : List Tr) (hx : p[i]? = some xs) V (b : Below w.heap.size w V) => (hr.below b) i xs hx)
 have H1 := hid (fun o : Obj => (show Below w.heap.size w (w.alloc o) from (Below.refl _ _).alloc (Nat.le_refl _) _))
 have z0 : (w.alloc (.cells #[.slice A n c] 31)).cell? ⟨w.heap.size, 0, none⟩ = some (.slice A n c) := cell_of_row _ _ 0 _ _ (0, 0) (heap1_0 w _)
 have hkeep : ∀ W, Below (w.alloc (.cells #[.slice A n c] 31)).heap.size (w.alloc (.cells #[.slice A n c] 31)) W → W.cell? ⟨w.heap.size, 0, none⟩ = some (.slice A n c) := fun W h => (h.cell (by show w.heap.size < _; simp)).trans z0
 have HK := hid hkeep
 have hsz : ∀ W, Below (w.alloc (.cells #[.slice A n c] 31)).heap.size (w.alloc (.cells #[.slice A n c] 31)) W → w.heap.size < W.heap.size := fun W h => by have := h.size; simp at this; omega
 have HSZ := hid hsz
 clear hkeep z0 hsz
 cases h1 : okProg p with
 | false =>
  rw [h1] at hP
  have HS := hid (show isPlace p f k = false by unfold isPlace isFn; rw [h1]; rfl)
  clear h1 hr hl hsm
  go_enter Try.func52, Try.ntmps52
  go_wp2_with fail
  refine (hP.out _ (H1.out _)).mono ?_
  rintro e w1 ⟨rfl, b1⟩
  go_wp2_with fail
  go_ret
  exact ⟨by rw [HS.out]; rfl, (H1.out _).trans (b1.mono (by simp))⟩
 | true =>
  rw [h1] at hP
  cases h2 : inP f n with
  | false =>
   rw [h2] at hF
   have HS := hid (show isPlace p f k = false by unfold isPlace; rw [isFn_eq, h1, hl, h2]; rfl)
   clear h1 h2 hr hl hsm
   go_enter Try.func52, Try.ntmps52
   go_wp2_with fail
   refine (hP.out _ (H1.out _)).mono ?_
   rintro e w1 ⟨rfl, b1⟩
   have k1 := HK.out w1 b1
   go_wp2_with fail
   refine (hF.out _).mono ?_
   rintro e w2 ⟨rfl, rfl⟩
   go_wp2_with fail
   go_ret
   exact ⟨by rw [HS.out]; rfl, ((H1.out _).trans (b1.mono (by simp))).alloc (by have := b1.size; simp at this; omega) _⟩
  | true =>
   have hfn : isFn p f = true := by rw [isFn_eq, h1, hl, h2]; rfl
   obtain ⟨_, f0, fn, hx⟩ := isFn_parts hfn
   obtain ⟨j, rfl⟩ := Int.eq_ofNat_of_zero_le f0
   have h8 := body_le hfn
   rw [Int.toNat_natCast] at hx
   have hs : isPlace p j k = btw k 0 (((body p j).length : Int) - 1) := by
    unfold isPlace btw
    rw [hfn, Bool.true_and]
    congr 1
    simp
    omega
   rw [h2] at hF
   rw [hl] at fn
   generalize body p j = xs at *
   have HS := hid hs
   have hI := hid (fun W => l1In_any k 0 ((xs.length : Int) - 1) W)
   have HR1 := hid (HRW.out j xs hx)
   clear h1 h2 hr hl hsm hs hfn hx HRW
   go_enter Try.func52, Try.ntmps52
   go_wp2_with fail
   refine (hP.out _ (H1.out _)).mono ?_
   rintro e w1 ⟨rfl, b1⟩
   have k1 := HK.out w1 b1
   have bb := ((H1.out _).trans (b1.mono (by simp))).alloc (by have := b1.size; simp at this; omega) (.cells #[.slice A n c] 31)
   have k2 : (w1.alloc (.cells #[.slice A n c] 31)).cell? ⟨w.heap.size, 0, none⟩ = some (.slice A n c) := (((Below.refl w1.heap.size w1).alloc (Nat.le_refl _) _).cell (p := ⟨w.heap.size, 0, none⟩) (HSZ.out w1 b1)).trans k1
   obtain ⟨ad, Ai, ci, rfl, hab, h0, -⟩ := HR1.out _ bb
   have BB := hid bb
   clear bb b1 HR1 hP HK HSZ H1
   go_wp2_with fail
   refine (hF.out _).mono ?_
   rintro e w2 ⟨rfl, rfl⟩
   go_wp2_with fail
   refine (hI.out _).mono ?_
   rintro e w3 ⟨rfl, rfl⟩
   go_wp2_with fail
   go_ret
   exact ⟨by rw [HS.out]; rfl, BB.out⟩
theorem l9Next_any (n c : Nat) (A : Option Addr) (p : Pg) (f k : Int) (hn : n ≤ 9223372036854775807) (hl : p.length = n) (hsm : Small p 9223372036854775807) (w : World) (hr : RdP w w.heap.size A p) :
  Calls Try.prog 61 #[.agg #[.slice A n c], .int .i64 f, .int .i64 k] w fun e w' => e = .returned (.bool (isPair p f k)) ∧ Below w.heap.size w w' := by
 have hP := hid (fun W (h : Below w.heap.size w W) => l2Program_any w.heap.size A n c p hn hl hsm W (hr.below h) h.size)
 have hF := hid (fun W => l2Function_any A n c f hn W)
 have HRW := hid (fun (i : Nat) (xs : List Tr) (hx : p[i]? = some xs) V (b : Below w.heap.size w V) => (hr.below b) i xs hx)
 have H1 := hid (fun o : Obj => (show Below w.heap.size w (w.alloc o) from (Below.refl _ _).alloc (Nat.le_refl _) _))
 have z0 : (w.alloc (.cells #[.slice A n c] 31)).cell? ⟨w.heap.size, 0, none⟩ = some (.slice A n c) := cell_of_row _ _ 0 _ _ (0, 0) (heap1_0 w _)
 have hkeep : ∀ W, Below (w.alloc (.cells #[.slice A n c] 31)).heap.size (w.alloc (.cells #[.slice A n c] 31)) W → W.cell? ⟨w.heap.size, 0, none⟩ = some (.slice A n c) := fun W h => (h.cell (by show w.heap.size < _; simp)).trans z0
 have HK := hid hkeep
 have hsz : ∀ W, Below (w.alloc (.cells #[.slice A n c] 31)).heap.size (w.alloc (.cells #[.slice A n c] 31)) W → w.heap.size < W.heap.size := fun W h => by have := h.size; simp at this; omega
 have HSZ := hid hsz
 clear hkeep z0 hsz
 cases h1 : okProg p with
 | false =>
  rw [h1] at hP
  have HS := hid (show isPair p f k = false by unfold isPair isFn; rw [h1]; rfl)
  clear h1 hr hl hsm
  go_enter Try.func61, Try.ntmps61
  go_wp2_with fail
  refine (hP.out _ (H1.out _)).mono ?_
  rintro e w1 ⟨rfl, b1⟩
  go_wp2_with fail
  go_ret
  exact ⟨by rw [HS.out]; rfl, (H1.out _).trans (b1.mono (by simp))⟩
 | true =>
  rw [h1] at hP
  cases h2 : inP f n with
  | false =>
   rw [h2] at hF
   have HS := hid (show isPair p f k = false by unfold isPair; rw [isFn_eq, h1, hl, h2]; rfl)
   clear h1 h2 hr hl hsm
   go_enter Try.func61, Try.ntmps61
   go_wp2_with fail
   refine (hP.out _ (H1.out _)).mono ?_
   rintro e w1 ⟨rfl, b1⟩
   have k1 := HK.out w1 b1
   go_wp2_with fail
   refine (hF.out _).mono ?_
   rintro e w2 ⟨rfl, rfl⟩
   go_wp2_with fail
   go_ret
   exact ⟨by rw [HS.out]; rfl, ((H1.out _).trans (b1.mono (by simp))).alloc (by have := b1.size; simp at this; omega) _⟩
  | true =>
   have hfn : isFn p f = true := by rw [isFn_eq, h1, hl, h2]; rfl
   obtain ⟨_, f0, fn, hx⟩ := isFn_parts hfn
   obtain ⟨j, rfl⟩ := Int.eq_ofNat_of_zero_le f0
   have h8 := body_le hfn
   rw [Int.toNat_natCast] at hx
   have hs : isPair p j k = btw k 0 (((body p j).length : Int) - 2) := by
    unfold isPair btw
    rw [hfn, Bool.true_and]
    congr 1
    simp
    omega
   rw [h2] at hF
   rw [hl] at fn
   generalize body p j = xs at *
   have HS := hid hs
   have hI := hid (fun W => l1In_any k 0 ((xs.length : Int) - 2) W)
   have HR1 := hid (HRW.out j xs hx)
   clear h1 h2 hr hl hsm hs hfn hx HRW
   go_enter Try.func61, Try.ntmps61
   go_wp2_with fail
   refine (hP.out _ (H1.out _)).mono ?_
   rintro e w1 ⟨rfl, b1⟩
   have k1 := HK.out w1 b1
   have bb := ((H1.out _).trans (b1.mono (by simp))).alloc (by have := b1.size; simp at this; omega) (.cells #[.slice A n c] 31)
   have k2 : (w1.alloc (.cells #[.slice A n c] 31)).cell? ⟨w.heap.size, 0, none⟩ = some (.slice A n c) := (((Below.refl w1.heap.size w1).alloc (Nat.le_refl _) _).cell (p := ⟨w.heap.size, 0, none⟩) (HSZ.out w1 b1)).trans k1
   obtain ⟨ad, Ai, ci, rfl, hab, h0, -⟩ := HR1.out _ bb
   have BB := hid bb
   clear bb b1 HR1 hP HK HSZ H1
   go_wp2_with fail
   refine (hF.out _).mono ?_
   rintro e w2 ⟨rfl, rfl⟩
   go_wp2_with fail
   refine (hI.out _).mono ?_
   rintro e w3 ⟨rfl, rfl⟩
   go_wp2_with fail
   go_ret
   exact ⟨by rw [HS.out]; rfl, BB.out⟩
theorem isPair_any (n c : Nat) (A : Option Addr) (p : Pg) (f k : Int) (hn : n ≤ 9223372036854775807) (hl : p.length = n) (hsm : Small p 9223372036854775807) (w : World) (hr : RdP w w.heap.size A p) :
  Calls Try.prog 65 #[.agg #[.slice A n c], .int .i64 f, .int .i64 k] w fun e w' => e = .returned (.bool (isPair p f k)) ∧ Below w.heap.size w w' := by
 have hF := hid (fun W (h : Below w.heap.size w W) => AskP.isFunction_any w.heap.size A n c p f hn hl hsm W (hr.below h) h.size)
 have HRW := hid (fun (i : Nat) (xs : List Tr) (hx : p[i]? = some xs) V (b : Below w.heap.size w V) => (hr.below b) i xs hx)
 have H1 := hid (fun o : Obj => (show Below w.heap.size w (w.alloc o) from (Below.refl _ _).alloc (Nat.le_refl _) _))
 have z0 : (w.alloc (.cells #[.slice A n c] 31)).cell? ⟨w.heap.size, 0, none⟩ = some (.slice A n c) := cell_of_row _ _ 0 _ _ (0, 0) (heap1_0 w _)
 have hkeep : ∀ W, Below (w.alloc (.cells #[.slice A n c] 31)).heap.size (w.alloc (.cells #[.slice A n c] 31)) W → W.cell? ⟨w.heap.size, 0, none⟩ = some (.slice A n c) := fun W h => (h.cell (by show w.heap.size < _; simp)).trans z0
 have HK := hid hkeep
 clear hkeep z0
 cases hfn : isFn p f with
 | false =>
  rw [hfn] at hF
  have HS := hid (show isPair p f k = false by unfold isPair; rw [hfn]; rfl)
  clear hfn hr hl hsm
  go_enter Try.func65, Try.ntmps65
  go_wp2_with fail
  refine (hF.out _ (H1.out _)).mono ?_
  rintro e w1 ⟨rfl, b1⟩
  go_wp2_with fail
  go_ret
  exact ⟨by rw [HS.out]; rfl, (H1.out _).trans (b1.mono (by simp))⟩
 | true =>
  rw [hfn] at hF
  obtain ⟨_, f0, fn, hx⟩ := isFn_parts hfn
  obtain ⟨j, rfl⟩ := Int.eq_ofNat_of_zero_le f0
  have h8 := body_le hfn
  rw [Int.toNat_natCast] at hx
  have hs : isPair p j k = (decide (0 ≤ k) && decide (k < ((body p j).length : Int) - 1)) := by
   unfold isPair
   rw [hfn, Bool.true_and]
   congr 1
   simp
   omega
  rw [hl] at fn
  generalize body p j = xs at *
  have HR1 := hid (HRW.out j xs hx)
  by_cases hk0 : 0 ≤ k
  ·by_cases hk1 : k < (xs.length : Int) - 1
   ·have HS := hid (show isPair p j k = true by rw [hs]; simp; omega)
    clear hr hl hsm hs hfn hx HRW
    go_enter Try.func65, Try.ntmps65
    go_wp2_with fail
    refine (hF.out _ (H1.out _)).mono ?_
    rintro e w1 ⟨rfl, b1⟩
    have k1 := HK.out w1 b1
    have bb := (H1.out _).trans (b1.mono (by simp))
    obtain ⟨ad, Ai, ci, rfl, hab, h0, -⟩ := HR1.out _ bb
    have BB := hid bb
    clear bb b1 HR1 hF HK H1
    go_wp2_with fail
    go_ret
    exact ⟨by rw [HS.out]; rfl, BB.out⟩
   ·have HS := hid (show isPair p j k = false by rw [hs]; simp; omega)
    have hd : decide (k < (xs.length : Int) - 1) = false := by simpa using hk1
    clear hr hl hsm hs hfn hx HRW
    go_enter Try.func65, Try.ntmps65
    go_wp2_with fail
    refine (hF.out _ (H1.out _)).mono ?_
    rintro e w1 ⟨rfl, b1⟩
    have k1 := HK.out w1 b1
    have bb := (H1.out _).trans (b1.mono (by simp))
    obtain ⟨ad, Ai, ci, rfl, hab, h0, -⟩ := HR1.out _ bb
    have BB := hid bb
    clear bb b1 HR1 hF HK H1
    go_wp2_with fail
    go_ret
    exact ⟨by rw [HS.out]; rfl, BB.out⟩
  ·have HS := hid (show isPair p j k = false by rw [hs]; simp; omega)
   clear hr hl hsm hs hfn hx HRW
   go_enter Try.func65, Try.ntmps65
   go_wp2_with fail
   refine (hF.out _ (H1.out _)).mono ?_
   rintro e w1 ⟨rfl, b1⟩
   have k1 := HK.out w1 b1
   go_wp2_with fail
   go_ret
   exact ⟨by rw [HS.out]; rfl, (H1.out _).trans (b1.mono (by simp))⟩
end Go.Proofs.Ytdmcgkcpclepfaa.Xpl
-- squeezed
