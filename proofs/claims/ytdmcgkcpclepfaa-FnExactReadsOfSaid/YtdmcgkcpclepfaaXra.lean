import Derived.Test.YtdmcgkcpclepfaaXrl
set_option linter.all false
namespace Go.Proofs.Ytdmcgkcpclepfaa.Xra
open Lib (hid)
open Go.ChangeShapes Go.WideShapes Go.ChangeAt Go.RowKit
open PL Mem Sst To AskP StpS Res PrgS IntsP LawI SetM Xcp Xpl Xrs Xri Xrl
set_option maxRecDepth 100000 in
set_option maxHeartbeats 4000000 in
theorem regR_any (lo n c : Nat) (A : Option Addr) (p : Pg) (f k : Int) (hn : n ≤ 9223372036854775807) (hl : p.length = n) (hsm : Small p 9223372036854775807) (w : World) (ho : OwnP w lo (.slice A n c) p) :
  Calls Try.prog 55 #[.agg #[.slice A n c], .int .i64 f, .int .i64 k, .func (.func 56) #[] #[]] w (IntsR (readsR p f k) w) := by
 have hF := hid (fun W (h : Below w.heap.size w W) => AskP.isFunction_any w.heap.size A n c p f hn hl hsm W (ho.rd.below h) h.size)
 have HRW := hid (fun (i : Nat) (xs : List Tr) (hx : p[i]? = some xs) V (b : Below w.heap.size w V) => (ho.rd.below b) i xs hx)
 have H1 := hid (fun o : Obj => (show Below w.heap.size w (w.alloc o) from (Below.refl _ _).alloc (Nat.le_refl _) _))
 have z0 : (w.alloc (.cells #[.slice A n c] 31)).cell? ⟨w.heap.size, 0, none⟩ = some (.slice A n c) := cell_of_row _ _ 0 _ _ (0, 0) (heap1_0 w _)
 have hkeep : ∀ W, Below (w.alloc (.cells #[.slice A n c] 31)).heap.size (w.alloc (.cells #[.slice A n c] 31)) W → W.cell? ⟨w.heap.size, 0, none⟩ = some (.slice A n c) := fun W h => (h.cell (by show w.heap.size < _; simp)).trans z0
 have HK := hid hkeep
 clear hkeep z0
 cases hfn : isFn p f with
 | false =>
  rw [hfn] at hF
  have HS := hid (show readsR p f k = ([], false) by unfold readsR isPlace; rw [hfn]; rfl)
  clear hfn ho hl hsm
  go_enter Try.func55, Try.ntmps55
  go_wp2_with fail
  refine (hF.out _ (H1.out _)).mono ?_
  rintro e w1 ⟨rfl, b1⟩
  have k1 := HK.out w1 b1
  have BB := hid ((H1.out _).trans (b1.mono (by simp)))
  clear b1
  go_wp2_with fail
  go_ret2
  exact ⟨_, _, by rw [HS.out] <;> rfl, by rw [HS.out]; exact own_mono (App.empty_own (heap1_0 w1 _) (Nat.le_refl _)) BB.out.size, BB.out.alloc BB.out.size _⟩
 | true =>
  rw [hfn] at hF
  obtain ⟨hok, f0, fn, hx⟩ := isFn_parts hfn
  obtain ⟨j, rfl⟩ := Int.eq_ofNat_of_zero_le f0
  have h8 := body_le hfn
  have hR : readsR p j k = if 0 ≤ k ∧ k < (body p j).length then (rdL ((body p j).getD k.toNat (0, 0, 0)), true) else ([], false) := by
   unfold readsR isPlace
   rw [hfn, Bool.true_and]
   by_cases h : 0 ≤ k ∧ k < (body p j).length
   ·rw [if_pos h, if_pos (by simp; exact h)]
   ·rw [if_neg h, if_neg (by simp; omega)]
  rw [Int.toNat_natCast] at hx
  rw [hl] at fn
  have hst := ((okProg_parts hok).2.2 j _ hx).2
  generalize body p j = xs at *
  have HR1 := hid (HRW.out j xs hx)
  have hm : p.length ≤ p.length := Nat.le_refl _
  by_cases hk0 : 0 ≤ k
  ·obtain ⟨q, rfl⟩ := Int.eq_ofNat_of_zero_le hk0
   by_cases hk1 : q < xs.length
   ·obtain ⟨⟨s0, s1, s2⟩, hs⟩ : ∃ s, xs[q]? = some s := ⟨_, List.getElem?_eq_getElem hk1⟩
    rw [if_pos ⟨hk0, by omega⟩, Int.toNat_natCast, List.getD_eq_getElem?_getD, hs, Option.getD_some] at hR
    have HS := hid hR
    have hok' := hst _ (List.mem_of_getElem? hs)
    have HL := hid (fun W => readBy_any p.length s0 s1 s2 hok' W)
    have HB := hid (fun W => list_any (inB (rdL (s0, s1, s2)) 0) (inB (rdL (s0, s1, s2)) 1) (inB (rdL (s0, s1, s2)) 2) (inB (rdL (s0, s1, s2)) 3) W)
    rw [list_rd hok'] at HB
    have HX := hid hs
    generalize rdL (s0, s1, s2) = l at *
    clear hfn ho hl hsm hok hx hst hs hR HRW hok' hm
    go_enter Try.func55, Try.ntmps55
    go_wp2_with fail
    refine (hF.out _ (H1.out _)).mono ?_
    rintro e w1 ⟨rfl, b1⟩
    have k1 := HK.out w1 b1
    have BB := hid ((H1.out _).trans (b1.mono (by simp)))
    clear b1
    obtain ⟨ad, Ai, ci, rfl, hab, h0, h1⟩ := HR1.out _ BB.out
    obtain ⟨sd, rfl, has, q0, q1, q2⟩ := h1 q _ HX.out
    dsimp only at q0 q1 q2
    clear HR1 hF HK H1 h1
    go_wp2_with fail
    refine (HL.out _).mono ?_
    rintro e w2 ⟨rfl, b2⟩
    have B2 := hid (BB.out.trans (b2.mono BB.out.size))
    clear b2 q0 q1 q2 k1 h0
    go_wp2_with fail
    refine (HB.out _).mono ?_
    rintro e w3 ⟨Ar, cr, rfl, o3, b3⟩
    have O3 := hid o3
    have B3 := hid (B2.out.trans (b3.mono B2.out.size))
    clear o3 b3
    go_wp2_with fail
    go_ret2
    exact ⟨Ar, cr, by rw [HS.out] <;> rfl, by rw [HS.out]; exact own_mono O3.out B2.out.size, B3.out⟩
   ·rw [if_neg (by omega)] at hR
    have HS := hid hR
    have hge : decide ((xs.length : Int) ≤ (q : Int)) = true := by simp; omega
    clear hfn ho hl hsm hok hx hst hR HRW hm
    go_enter Try.func55, Try.ntmps55
    go_wp2_with fail
    refine (hF.out _ (H1.out _)).mono ?_
    rintro e w1 ⟨rfl, b1⟩
    have k1 := HK.out w1 b1
    have BB := hid ((H1.out _).trans (b1.mono (by simp)))
    clear b1
    obtain ⟨ad, Ai, ci, rfl, hab, h0, -⟩ := HR1.out _ BB.out
    clear HR1 hF HK H1
    go_wp2_with fail
    go_ret2
    exact ⟨_, _, by rw [HS.out] <;> rfl, by rw [HS.out]; exact own_mono (App.empty_own (heap1_0 w1 _) (Nat.le_refl _)) BB.out.size, BB.out.alloc BB.out.size _⟩
  ·rw [if_neg (by omega)] at hR
   have HS := hid hR
   have hlt : k < 0 := by omega
   clear hfn ho hl hsm hok hx hst hR HRW hm
   go_enter Try.func55, Try.ntmps55
   go_wp2_with fail
   refine (hF.out _ (H1.out _)).mono ?_
   rintro e w1 ⟨rfl, b1⟩
   have k1 := HK.out w1 b1
   have BB := hid ((H1.out _).trans (b1.mono (by simp)))
   clear b1
   go_wp2_with fail
   go_ret2
   exact ⟨_, _, by rw [HS.out] <;> rfl, by rw [HS.out]; exact own_mono (App.empty_own (heap1_0 w1 _) (Nat.le_refl _)) BB.out.size, BB.out.alloc BB.out.size _⟩
set_option maxRecDepth 100000 in
set_option maxHeartbeats 4000000 in
theorem regW_any (lo n c : Nat) (A : Option Addr) (p : Pg) (f k : Int) (hn : n ≤ 9223372036854775807) (hl : p.length = n) (hsm : Small p 9223372036854775807) (w : World) (ho : OwnP w lo (.slice A n c) p) :
  Calls Try.prog 55 #[.agg #[.slice A n c], .int .i64 f, .int .i64 k, .func (.func 60) #[] #[]] w (IntsR (writesR p f k) w) := by
 have hF := hid (fun W (h : Below w.heap.size w W) => AskP.isFunction_any w.heap.size A n c p f hn hl hsm W (ho.rd.below h) h.size)
 have HRW := hid (fun (i : Nat) (xs : List Tr) (hx : p[i]? = some xs) V (b : Below w.heap.size w V) => (ho.rd.below b) i xs hx)
 have H1 := hid (fun o : Obj => (show Below w.heap.size w (w.alloc o) from (Below.refl _ _).alloc (Nat.le_refl _) _))
 have z0 : (w.alloc (.cells #[.slice A n c] 31)).cell? ⟨w.heap.size, 0, none⟩ = some (.slice A n c) := cell_of_row _ _ 0 _ _ (0, 0) (heap1_0 w _)
 have hkeep : ∀ W, Below (w.alloc (.cells #[.slice A n c] 31)).heap.size (w.alloc (.cells #[.slice A n c] 31)) W → W.cell? ⟨w.heap.size, 0, none⟩ = some (.slice A n c) := fun W h => (h.cell (by show w.heap.size < _; simp)).trans z0
 have HK := hid hkeep
 clear hkeep z0
 cases hfn : isFn p f with
 | false =>
  rw [hfn] at hF
  have HS := hid (show writesR p f k = ([], false) by unfold writesR isPlace; rw [hfn]; rfl)
  clear hfn ho hl hsm
  go_enter Try.func55, Try.ntmps55
  go_wp2_with fail
  refine (hF.out _ (H1.out _)).mono ?_
  rintro e w1 ⟨rfl, b1⟩
  have k1 := HK.out w1 b1
  have BB := hid ((H1.out _).trans (b1.mono (by simp)))
  clear b1
  go_wp2_with fail
  go_ret2
  exact ⟨_, _, by rw [HS.out] <;> rfl, by rw [HS.out]; exact own_mono (App.empty_own (heap1_0 w1 _) (Nat.le_refl _)) BB.out.size, BB.out.alloc BB.out.size _⟩
 | true =>
  rw [hfn] at hF
  obtain ⟨hok, f0, fn, hx⟩ := isFn_parts hfn
  obtain ⟨j, rfl⟩ := Int.eq_ofNat_of_zero_le f0
  have h8 := body_le hfn
  have hR : writesR p j k = if 0 ≤ k ∧ k < (body p j).length then (wrL ((body p j).getD k.toNat (0, 0, 0)), true) else ([], false) := by
   unfold writesR isPlace
   rw [hfn, Bool.true_and]
   by_cases h : 0 ≤ k ∧ k < (body p j).length
   ·rw [if_pos h, if_pos (by simp; exact h)]
   ·rw [if_neg h, if_neg (by simp; omega)]
  rw [Int.toNat_natCast] at hx
  rw [hl] at fn
  have hst := ((okProg_parts hok).2.2 j _ hx).2
  generalize body p j = xs at *
  have HR1 := hid (HRW.out j xs hx)
  have hm : p.length ≤ p.length := Nat.le_refl _
  by_cases hk0 : 0 ≤ k
  ·obtain ⟨q, rfl⟩ := Int.eq_ofNat_of_zero_le hk0
   by_cases hk1 : q < xs.length
   ·obtain ⟨⟨s0, s1, s2⟩, hs⟩ : ∃ s, xs[q]? = some s := ⟨_, List.getElem?_eq_getElem hk1⟩
    rw [if_pos ⟨hk0, by omega⟩, Int.toNat_natCast, List.getD_eq_getElem?_getD, hs, Option.getD_some] at hR
    have HS := hid hR
    have hok' := hst _ (List.mem_of_getElem? hs)
    have HL := hid (fun W => writtenBy_any p.length s0 s1 s2 hok' W)
    have HB := hid (fun W => list_any (inB (wrL (s0, s1, s2)) 0) (inB (wrL (s0, s1, s2)) 1) (inB (wrL (s0, s1, s2)) 2) (inB (wrL (s0, s1, s2)) 3) W)
    rw [list_wr hok'] at HB
    have HX := hid hs
    generalize wrL (s0, s1, s2) = l at *
    clear hfn ho hl hsm hok hx hst hs hR HRW hok' hm
    go_enter Try.func55, Try.ntmps55
    go_wp2_with fail
    refine (hF.out _ (H1.out _)).mono ?_
    rintro e w1 ⟨rfl, b1⟩
    have k1 := HK.out w1 b1
    have BB := hid ((H1.out _).trans (b1.mono (by simp)))
    clear b1
    obtain ⟨ad, Ai, ci, rfl, hab, h0, h1⟩ := HR1.out _ BB.out
    obtain ⟨sd, rfl, has, q0, q1, q2⟩ := h1 q _ HX.out
    dsimp only at q0 q1 q2
    clear HR1 hF HK H1 h1
    go_wp2_with fail
    refine (HL.out _).mono ?_
    rintro e w2 ⟨rfl, b2⟩
    have B2 := hid (BB.out.trans (b2.mono BB.out.size))
    clear b2 q0 q1 q2 k1 h0
    go_wp2_with fail
    refine (HB.out _).mono ?_
    rintro e w3 ⟨Ar, cr, rfl, o3, b3⟩
    have O3 := hid o3
    have B3 := hid (B2.out.trans (b3.mono B2.out.size))
    clear o3 b3
    go_wp2_with fail
    go_ret2
    exact ⟨Ar, cr, by rw [HS.out] <;> rfl, by rw [HS.out]; exact own_mono O3.out B2.out.size, B3.out⟩
   ·rw [if_neg (by omega)] at hR
    have HS := hid hR
    have hge : decide ((xs.length : Int) ≤ (q : Int)) = true := by simp; omega
    clear hfn ho hl hsm hok hx hst hR HRW hm
    go_enter Try.func55, Try.ntmps55
    go_wp2_with fail
    refine (hF.out _ (H1.out _)).mono ?_
    rintro e w1 ⟨rfl, b1⟩
    have k1 := HK.out w1 b1
    have BB := hid ((H1.out _).trans (b1.mono (by simp)))
    clear b1
    obtain ⟨ad, Ai, ci, rfl, hab, h0, -⟩ := HR1.out _ BB.out
    clear HR1 hF HK H1
    go_wp2_with fail
    go_ret2
    exact ⟨_, _, by rw [HS.out] <;> rfl, by rw [HS.out]; exact own_mono (App.empty_own (heap1_0 w1 _) (Nat.le_refl _)) BB.out.size, BB.out.alloc BB.out.size _⟩
  ·rw [if_neg (by omega)] at hR
   have HS := hid hR
   have hlt : k < 0 := by omega
   clear hfn ho hl hsm hok hx hst hR HRW hm
   go_enter Try.func55, Try.ntmps55
   go_wp2_with fail
   refine (hF.out _ (H1.out _)).mono ?_
   rintro e w1 ⟨rfl, b1⟩
   have k1 := HK.out w1 b1
   have BB := hid ((H1.out _).trans (b1.mono (by simp)))
   clear b1
   go_wp2_with fail
   go_ret2
   exact ⟨_, _, by rw [HS.out] <;> rfl, by rw [HS.out]; exact own_mono (App.empty_own (heap1_0 w1 _) (Nat.le_refl _)) BB.out.size, BB.out.alloc BB.out.size _⟩
theorem rdI_any (lo n c : Nat) (A : Option Addr) (p : Pg) (f k : Int) (hn : n ≤ 9223372036854775807) (hl : p.length = n) (hsm : Small p 9223372036854775807) (w : World) (ho : OwnP w lo (.slice A n c) p) :
  Calls Try.prog 18 #[.agg #[.slice A n c], .int .i64 f, .int .i64 k] w (IntsR (readsR p f k) w) := by
 have hF := hid (fun W (h : Below w.heap.size w W) => regR_any lo n c A p f k hn hl hsm W (ho.chg (C := fun _ => False) (Chg.of_below h) (fun _ _ _ hc => hc)))
 have H1 := hid (fun o : Obj => (show Below w.heap.size w (w.alloc o) from (Below.refl _ _).alloc (Nat.le_refl _) _))
 clear ho hl hsm
 go_enter Try.func18, Try.ntmps18
 go_wp2_with fail
 refine (hF.out _ (H1.out _)).mono ?_
 rintro e w1 ⟨Ar, cr, rfl, o1, b1⟩
 have O1 := hid o1
 have B1 := hid ((H1.out _).trans (b1.mono (by simp)))
 clear o1 b1
 go_wp2_with fail
 go_ret2
 exact ⟨Ar, cr, rfl, own_mono O1.out (by simp), B1.out⟩
theorem wrI_any (lo n c : Nat) (A : Option Addr) (p : Pg) (f k : Int) (hn : n ≤ 9223372036854775807) (hl : p.length = n) (hsm : Small p 9223372036854775807) (w : World) (ho : OwnP w lo (.slice A n c) p) :
  Calls Try.prog 25 #[.agg #[.slice A n c], .int .i64 f, .int .i64 k] w (IntsR (writesR p f k) w) := by
 have hF := hid (fun W (h : Below w.heap.size w W) => regW_any lo n c A p f k hn hl hsm W (ho.chg (C := fun _ => False) (Chg.of_below h) (fun _ _ _ hc => hc)))
 have H1 := hid (fun o : Obj => (show Below w.heap.size w (w.alloc o) from (Below.refl _ _).alloc (Nat.le_refl _) _))
 clear ho hl hsm
 go_enter Try.func25, Try.ntmps25
 go_wp2_with fail
 refine (hF.out _ (H1.out _)).mono ?_
 rintro e w1 ⟨Ar, cr, rfl, o1, b1⟩
 have O1 := hid o1
 have B1 := hid ((H1.out _).trans (b1.mono (by simp)))
 clear o1 b1
 go_wp2_with fail
 go_ret2
 exact ⟨Ar, cr, rfl, own_mono O1.out (by simp), B1.out⟩
end Go.Proofs.Ytdmcgkcpclepfaa.Xra
-- squeezed
