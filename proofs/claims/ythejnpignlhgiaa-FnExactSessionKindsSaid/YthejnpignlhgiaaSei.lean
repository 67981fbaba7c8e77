import Derived.Test.YthejnpignlhgiaaSem
import Derived.Test.YthejnpignlhgiaaSep
import Derived.Test.YthejnpignlhgiaaM11
import Derived.Test.YthejnpignlhgiaaSkp
set_option linter.all false
namespace Go.Proofs.Ythejnpignlhgiaa.Sei
open Lib (hid)
open Go.ChangeShapes Go.WideShapes Go.ChangeAt Go.RowKit
open PL Mem To Srun Sst IntsP RowA Sz OpenP AskP StpS Res SemP Sep
theorem all_next {α : Type} {q : α → Bool} {xs : List α} {k : Nat} {s : α} (h : (xs.take k).all q = true) (hs : xs[k]? = some s) (hq : q s = true) : (xs.take (k + 1)).all q = true := by
 rw [List.take_add_one, hs, List.all_append, h]
 simpa using hq
theorem all_no {α : Type} {q : α → Bool} {xs : List α} {k : Nat} {s : α} (hs : xs[k]? = some s) (hq : q s = false) : xs.all q = false := by
 rw [List.all_eq_false]
 exact ⟨s, List.mem_of_getElem? hs, by rw [hq]; decide⟩
theorem all_end {α : Type} {q : α → Bool} {xs : List α} {k : Nat} (h : (xs.take k).all q = true) (hk : xs.length = k) : xs.all q = true := by
 rwa [List.take_of_length_le (by omega)] at h
theorem isMode_any (m : Int) (w : World) : Calls Try.prog 102 #[.int .i64 m] w fun e w' => e = .returned (.bool (btw m 1 3)) ∧ w = w' := by
 by_cases h1 : m = 1
 ·subst h1
  go_enter Try.func102, Try.ntmps102
  go_wp2
  go_ret
  exact ⟨rfl, rfl⟩
 ·by_cases h2 : m = 2
  ·subst h2
   go_enter Try.func102, Try.ntmps102
   go_wp2
   go_ret
   exact ⟨rfl, rfl⟩
  ·by_cases h3 : m = 3
   ·subst h3
    go_enter Try.func102, Try.ntmps102
    go_wp2
    go_ret
    exact ⟨rfl, rfl⟩
   ·have hb := hid (show btw m 1 3 = false by unfold btw; simp; omega)
    have e1 : (m == 1) = false := by simpa using h1
    have e2 : (m == 2) = false := by simpa using h2
    have e3 : (m == 3) = false := by simpa using h3
    clear h1 h2 h3
    go_enter Try.func102, Try.ntmps102
    go_wp2
    go_ret
    exact ⟨by rw [hb.out]; rfl, rfl⟩
set_option maxRecDepth 100000 in
set_option maxHeartbeats 4000000 in
theorem isSes_any (B n c nj nh cj ch : Nat) (A Aj Ah : Option Addr) (p : Pg) (js : List Pr) (hs : List Int) (mode : Int) (hn : n ≤ 9223372036854775807) (hl : p.length = n) (hsm : Small p 9223372036854775807) (hj : nj ≤ 9223372036854775807) (lj : js.length = nj) (hh : nh ≤ 9223372036854775807) (lh : hs.length = nh) (w : World) (hr : RdP w B A p) (hrs : RdSe w B Aj Ah js hs) (hB : B ≤ w.heap.size) :
  Calls Try.prog 66 #[.agg #[.slice A n c], .agg #[.slice Aj nj cj, .slice Ah nh ch, .int .i64 mode]] w fun e w' => e = .returned (.bool (sesB p js hs mode)) ∧ Below w.heap.size w w' := by
 have hF := hid (fun (f : Int) W (h : Below w.heap.size w W) => isFunction_any B A n c p f hn hl hsm W (hr.below (h.mono hB)) (Nat.le_trans hB h.size))
 have hM := hid (fun W => isMode_any mode W)
 have h2 := hid (App.Bl.alloc (App.Bl.alloc (App.Bl.refl w) (.cells #[.slice A n c] 35)) (.cells #[.slice Aj nj cj, .slice Ah nh ch, .int .i64 mode] 39))
 have HRD := hid (fun W (h : Below w.heap.size w W) => hrs.below (h.mono hB))
 clear hr hrs
 by_cases k1 : nj ≤ 12
 ·by_cases k2 : nh ≤ 12
  ·cases km : btw mode 1 3 with
   | false =>
    have d1 : decide ((nj : Int) > 12) = false := by simp; omega
    have d2 : decide ((nh : Int) > 12) = false := by simp; omega
    rw [km] at hM
    have hs' := hid (show sesB p js hs mode = false by unfold sesB; rw [km]; simp)
    go_enter Try.func66, Try.ntmps66
    go_upto_region 1 with fail
    change (fun V => Code.wp _ _ _ _ V) _
    refine gen_world (X := fun V => Blk V w.heap.size 35 #[.slice A n c] ∧ Blk V (w.heap.size + 1) 39 #[.slice Aj nj cj, .slice Ah nh ch, .int .i64 mode] ∧ Below w.heap.size w V) ⟨heap2_0 w _ _, heap2_1 w _ _, h2.out⟩ ?_
    rintro w1 ⟨x1, x2, b1⟩
    have z1 : w1.cell? ⟨w.heap.size, 0, none⟩ = some (.slice A n c) := x1.cells 0
    have z2 : w1.cell? ⟨w.heap.size + 1, 0, none⟩ = some (.slice Aj nj cj) := x2.cells 0
    have z3 : w1.cell? ⟨w.heap.size + 1, 1, none⟩ = some (.slice Ah nh ch) := x2.cells 1
    have z4 : w1.cell? ⟨w.heap.size + 1, 2, none⟩ = some (.int .i64 mode) := x2.cells 2
    have l1 := x2.lt
    have X1 := hid x1
    have X2 := hid x2
    have B1 := hid b1
    clear x1 x2 b1
    go_wp2_with fail
    refine (hM.out _).mono ?_
    rintro e wm ⟨rfl, rfl⟩
    go_wp2_with fail
    go_ret
    exact ⟨by rw [hs'.out]; rfl, B1.out⟩
   | true =>
    have BS := hid (fun (a b : Bool) (ha : js.all (okJob p) = a) (hb : hs.all (isFn p) = b) => (show sesB p js hs mode = (a && b) by unfold sesB; rw [ha, hb, km, lj, lh, decide_eq_true k1, decide_eq_true k2]; rfl))
    have d1 : decide ((nj : Int) > 12) = false := by simp; omega
    have d2 : decide ((nh : Int) > 12) = false := by simp; omega
    rw [km] at hM
    have LJ := hid lj
    have LH := hid lh
    clear km lj lh hl hsm
    go_enter Try.func66, Try.ntmps66
    go_upto_region 1 with fail
    change (fun V => Code.wp _ _ _ _ V) _
    refine gen_world (X := fun V => Blk V w.heap.size 35 #[.slice A n c] ∧ Blk V (w.heap.size + 1) 39 #[.slice Aj nj cj, .slice Ah nh ch, .int .i64 mode] ∧ Below w.heap.size w V) ⟨heap2_0 w _ _, heap2_1 w _ _, h2.out⟩ ?_
    rintro w1 ⟨x1, x2, b1⟩
    have z1 : w1.cell? ⟨w.heap.size, 0, none⟩ = some (.slice A n c) := x1.cells 0
    have z2 : w1.cell? ⟨w.heap.size + 1, 0, none⟩ = some (.slice Aj nj cj) := x2.cells 0
    have z3 : w1.cell? ⟨w.heap.size + 1, 1, none⟩ = some (.slice Ah nh ch) := x2.cells 1
    have z4 : w1.cell? ⟨w.heap.size + 1, 2, none⟩ = some (.int .i64 mode) := x2.cells 2
    have l1 := x2.lt
    have X1 := hid x1
    have X2 := hid x2
    have B1 := hid b1
    clear x1 x2 b1
    go_wp2_with fail
    refine (hM.out _).mono ?_
    rintro e wm ⟨rfl, rfl⟩
    have hX := hid (fun (V : World) (b : Below w1.heap.size w1 V) => (show V.cell? ⟨w.heap.size, 0, none⟩ = some (.slice A n c) ∧ V.cell? ⟨w.heap.size + 1, 1, none⟩ = some (.slice Ah nh ch) from ⟨(X1.out.below b X1.out.lt).cells 0, (X2.out.below b X2.out.lt).cells 1⟩))
    clear z1 z3 z4 X1 X2
    go_wp2_with fail
    go_loopw [28] (fun i wr => ∃ k : Nat, k ≤ nj ∧ i = .int .i64 k ∧ Hid ((js.take k).all (okJob p) = true) ∧ Below w1.heap.size w1 wr) (fun i _ => nj - (intOf i).toNat)
    case atStart => exact ⟨0, Nat.zero_le _, rfl, hid rfl, Below.refl _ _⟩
    case round =>
     obtain ⟨k, hk, rfl, hal, hb⟩ := hrel
     clear z2
     have bw := B1.out.trans (hb.mono B1.out.size)
     by_cases hlt : k < nj
     ·obtain ⟨⟨s0, s1⟩, hs⟩ : ∃ s, js[k]? = some s := ⟨_, List.getElem?_eq_getElem (by rw [LJ.out]; exact hlt)⟩
      obtain ⟨ad, rfl, hab, h0, h1⟩ := (HRD.out wr bw).jobs k _ hs
      have HS := hid hs
      have HB := hid hb
      have b2 : Below w1.heap.size w1 (wr.alloc (.cells #[.int .i64 s0, .int .i64 s1] 142)) := hb.alloc hb.size _
      have B2 := hid b2
      have hF := hid (hF.out s0 _ (B1.out.trans (b2.mono B1.out.size)))
      have HX := hid (heap1_0 wr (.cells #[.int .i64 s0, .int .i64 s1] 142))
      have zp := (hX.out _ b2).1
      have hN := hid (fun W => Stp.isNumber_any s1 W)
      dsimp only at h0 h1
      clear hs hb b2 bw
      cases hf : isFn p s0 with
      | false =>
       have hsb := hid (BS.out _ _ (all_no HS.out (show okJob p (s0, s1) = false by unfold okJob; rw [hf]; rfl)) rfl)
       rw [hf] at hF
       clear hf
       go_wp2_with fail
       refine hF.out.mono ?_
       rintro e w2 ⟨rfl, b2⟩
       go_wp2_with fail
       go_ret
       exact ⟨by rw [hsb.out]; rfl, B1.out.trans ((B2.out.trans (b2.mono B2.out.size)).mono B1.out.size)⟩
      | true =>
       rw [hf] at hF
       cases hg : isNum s1 with
       | false =>
        have hsb := hid (BS.out _ _ (all_no HS.out (show okJob p (s0, s1) = false by unfold okJob; rw [hf, hg]; rfl)) rfl)
        rw [hg] at hN
        clear hf hg
        go_wp2_with fail
        refine hF.out.mono ?_
        rintro e w2 ⟨rfl, b2⟩
        have zq : w2.cell? ⟨wr.heap.size, 1, none⟩ = some (.int .i64 s1) := (Blk.below HX.out b2 (by simp)).cells 1
        go_wp2_with fail
        refine (hN.out _).mono ?_
        rintro e w3 ⟨rfl, rfl⟩
        go_wp2_with fail
        go_ret
        exact ⟨by rw [hsb.out]; rfl, B1.out.trans ((B2.out.trans (b2.mono B2.out.size)).mono B1.out.size)⟩
       | true =>
        have hnx := hid (all_next hal.out HS.out (show okJob p (s0, s1) = true by unfold okJob; rw [hf, hg]; rfl))
        rw [hg] at hN
        clear hf hg
        go_wp2_with fail
        refine hF.out.mono ?_
        rintro e w2 ⟨rfl, b2⟩
        have zq : w2.cell? ⟨wr.heap.size, 1, none⟩ = some (.int .i64 s1) := (Blk.below HX.out b2 (by simp)).cells 1
        go_wp2_with fail
        refine (hN.out _).mono ?_
        rintro e w3 ⟨rfl, rfl⟩
        go_wp2_with fail
        go_roundw
        case rel => exact ⟨k + 1, by omega, by go_num, hnx, B2.out.trans (b2.mono B2.out.size)⟩
        case measure => simp [intOf]; omega
     ·obtain rfl : k = nj := by omega
      have AJ := hid (all_end hal.out LJ.out)
      have hB0 := hid hb
      have zh := (hX.out _ hb).2
      clear hal hb bw
      go_wp2_with fail
      go_loopw [47] (fun i wx => ∃ q : Nat, q ≤ nh ∧ i = .int .i64 q ∧ Hid ((hs.take q).all (isFn p) = true) ∧ Below w1.heap.size w1 wx) (fun i _ => nh - (intOf i).toNat)
      case atStart => exact ⟨0, Nat.zero_le _, rfl, hid rfl, hB0.out⟩
      case round =>
       obtain ⟨q, hq, rfl, hal, hb⟩ := hrel
       clear zh
       have bw := B1.out.trans (hb.mono B1.out.size)
       by_cases hlt : q < nh
       ·obtain ⟨s, hs⟩ : ∃ s, hs[q]? = some s := ⟨_, List.getElem?_eq_getElem (by rw [LH.out]; exact hlt)⟩
        obtain ⟨ad, rfl, hab, h0⟩ := (HRD.out _ bw).hooks q _ hs
        have HS := hid hs
        have HB := hid hb
        have hF := hid (hF.out s _ bw)
        have zp := (hX.out _ hb).1
        clear hs hb bw
        cases hf : isFn p s with
        | false =>
         have hsb := hid ((BS.out _ _ AJ.out (all_no HS.out hf)))
         rw [hf] at hF
         clear hf
         go_wp2_with fail
         refine hF.out.mono ?_
         rintro e w2 ⟨rfl, b2⟩
         go_wp2_with fail
         go_ret
         exact ⟨by rw [hsb.out]; rfl, B1.out.trans ((HB.out.trans (b2.mono HB.out.size)).mono B1.out.size)⟩
        | true =>
         have hnx := hid (all_next hal.out HS.out hf)
         rw [hf] at hF
         clear hf
         go_wp2_with fail
         refine hF.out.mono ?_
         rintro e w2 ⟨rfl, b2⟩
         go_wp2_with fail
         go_roundw
         case rel => exact ⟨q + 1, by omega, by go_num, hnx, HB.out.trans (b2.mono HB.out.size)⟩
         case measure => simp [intOf]; omega
       ·obtain rfl : q = nh := by omega
        have hsb := hid (BS.out _ _ AJ.out (all_end hal.out LH.out))
        have HB := hid hb
        clear hal hb bw
        go_wp2_with fail
        go_ret
        exact ⟨by rw [hsb.out]; rfl, B1.out.trans (HB.out.mono B1.out.size)⟩
  ·have d1 : decide ((nj : Int) > 12) = false := by simp; omega
   have d2 : decide ((nh : Int) > 12) = true := by simp; omega
   have hs' := hid (show sesB p js hs mode = false by unfold sesB; rw [lh, decide_eq_false k2]; simp)
   go_enter Try.func66, Try.ntmps66
   go_upto_region 1 with fail
   change (fun V => Code.wp _ _ _ _ V) _
   refine gen_world (X := fun V => Blk V w.heap.size 35 #[.slice A n c] ∧ Blk V (w.heap.size + 1) 39 #[.slice Aj nj cj, .slice Ah nh ch, .int .i64 mode] ∧ Below w.heap.size w V) ⟨heap2_0 w _ _, heap2_1 w _ _, h2.out⟩ ?_
   rintro w1 ⟨x1, x2, b1⟩
   have z1 : w1.cell? ⟨w.heap.size, 0, none⟩ = some (.slice A n c) := x1.cells 0
   have z2 : w1.cell? ⟨w.heap.size + 1, 0, none⟩ = some (.slice Aj nj cj) := x2.cells 0
   have z3 : w1.cell? ⟨w.heap.size + 1, 1, none⟩ = some (.slice Ah nh ch) := x2.cells 1
   have z4 : w1.cell? ⟨w.heap.size + 1, 2, none⟩ = some (.int .i64 mode) := x2.cells 2
   have l1 := x2.lt
   have X1 := hid x1
   have X2 := hid x2
   have B1 := hid b1
   clear x1 x2 b1
   go_wp2_with fail
   go_ret
   exact ⟨by rw [hs'.out]; rfl, B1.out⟩
 ·have d1 : decide ((nj : Int) > 12) = true := by simp; omega
  have hs' := hid (show sesB p js hs mode = false by unfold sesB; rw [lj, decide_eq_false k1]; rfl)
  go_enter Try.func66, Try.ntmps66
  go_upto_region 1 with fail
  change (fun V => Code.wp _ _ _ _ V) _
  refine gen_world (X := fun V => Blk V w.heap.size 35 #[.slice A n c] ∧ Blk V (w.heap.size + 1) 39 #[.slice Aj nj cj, .slice Ah nh ch, .int .i64 mode] ∧ Below w.heap.size w V) ⟨heap2_0 w _ _, heap2_1 w _ _, h2.out⟩ ?_
  rintro w1 ⟨x1, x2, b1⟩
  have z1 : w1.cell? ⟨w.heap.size, 0, none⟩ = some (.slice A n c) := x1.cells 0
  have z2 : w1.cell? ⟨w.heap.size + 1, 0, none⟩ = some (.slice Aj nj cj) := x2.cells 0
  have z3 : w1.cell? ⟨w.heap.size + 1, 1, none⟩ = some (.slice Ah nh ch) := x2.cells 1
  have z4 : w1.cell? ⟨w.heap.size + 1, 2, none⟩ = some (.int .i64 mode) := x2.cells 2
  have l1 := x2.lt
  have X1 := hid x1
  have X2 := hid x2
  have B1 := hid b1
  clear x1 x2 b1
  go_wp2_with fail
  go_ret
  exact ⟨by rw [hs'.out]; rfl, B1.out⟩
set_option maxRecDepth 100000 in
set_option maxHeartbeats 1000000 in
theorem isesI_any (lo n c nj nh cj ch : Nat) (A Aj Ah : Option Addr) (p : Pg) (js : List Pr) (hs : List Int) (mode : Int) (hn : n ≤ 9223372036854775807) (hl : p.length = n) (hsm : Small p 9223372036854775807) (hj : nj ≤ 9223372036854775807) (lj : js.length = nj) (hh : nh ≤ 9223372036854775807) (lh : hs.length = nh) (w : World) (ho : OwnP w lo (.slice A n c) p) (hrs : RdSe w w.heap.size Aj Ah js hs) :
  Calls Try.prog 20 #[.agg #[.slice A n c], .agg #[.slice Aj nj cj, .slice Ah nh ch, .int .i64 mode]] w (BolR (isSesR p js hs mode) w) := by
 have hP := hid (fun W (h : Below w.heap.size w W) => Prg.isProgram_any w.heap.size A n c p hn hl hsm W (ho.rd.below h) h.size)
 have hS := hid (fun W (h : Below w.heap.size w W) => isSes_any w.heap.size n c nj nh cj ch A Aj Ah p js hs mode hn hl hsm hj lj hh lh W (ho.rd.below h) (hrs.below h) h.size)
 have h2 := hid (App.Bl.alloc (App.Bl.alloc (App.Bl.refl w) (.cells #[.slice A n c] 35)) (.cells #[.slice Aj nj cj, .slice Ah nh ch, .int .i64 mode] 39))
 clear ho hrs
 cases ok : okProg p with
 | false =>
  have hs' := hid (show isSesR p js hs mode = (false, false) by unfold isSesR; rw [ok]; rfl)
  rw [ok] at hP
  clear ok
  go_enter Try.func20, Try.ntmps20
  go_upto_region 1 with fail
  change (fun V => Code.wp _ _ _ _ V) _
  refine gen_world (X := fun V => Blk V w.heap.size 35 #[.slice A n c] ∧ Blk V (w.heap.size + 1) 39 #[.slice Aj nj cj, .slice Ah nh ch, .int .i64 mode] ∧ Below w.heap.size w V) ⟨heap2_0 w _ _, heap2_1 w _ _, h2.out⟩ ?_
  rintro w1 ⟨x1, x2, b1⟩
  have z1 : w1.cell? ⟨w.heap.size, 0, none⟩ = some (.slice A n c) := x1.cells 0
  have z2 : w1.cell? ⟨w.heap.size + 1, 0, none⟩ = some (.slice Aj nj cj) := x2.cells 0
  have z3 : w1.cell? ⟨w.heap.size + 1, 1, none⟩ = some (.slice Ah nh ch) := x2.cells 1
  have z4 : w1.cell? ⟨w.heap.size + 1, 2, none⟩ = some (.int .i64 mode) := x2.cells 2
  have l1 := x2.lt
  have X1 := hid x1
  have X2 := hid x2
  have B1 := hid b1
  clear x1 x2 b1
  go_wp2_with fail
  refine (hP.out _ B1.out).mono ?_
  rintro e w2 ⟨rfl, b2⟩
  go_wp2_with fail
  go_ret2
  exact ⟨by rw [hs'.out] <;> rfl, B1.out.trans (b2.mono B1.out.size)⟩
 | true =>
  have hs' := hid (show isSesR p js hs mode = (sesB p js hs mode, true) by unfold isSesR okSes; rw [ok]; rfl)
  rw [ok] at hP
  clear ok
  generalize sesB p js hs mode = r at *
  go_enter Try.func20, Try.ntmps20
  go_upto_region 1 with fail
  change (fun V => Code.wp _ _ _ _ V) _
  refine gen_world (X := fun V => Blk V w.heap.size 35 #[.slice A n c] ∧ Blk V (w.heap.size + 1) 39 #[.slice Aj nj cj, .slice Ah nh ch, .int .i64 mode] ∧ Below w.heap.size w V) ⟨heap2_0 w _ _, heap2_1 w _ _, h2.out⟩ ?_
  rintro w1 ⟨x1, x2, b1⟩
  have z1 : w1.cell? ⟨w.heap.size, 0, none⟩ = some (.slice A n c) := x1.cells 0
  have z2 : w1.cell? ⟨w.heap.size + 1, 0, none⟩ = some (.slice Aj nj cj) := x2.cells 0
  have z3 : w1.cell? ⟨w.heap.size + 1, 1, none⟩ = some (.slice Ah nh ch) := x2.cells 1
  have z4 : w1.cell? ⟨w.heap.size + 1, 2, none⟩ = some (.int .i64 mode) := x2.cells 2
  have l1 := x2.lt
  have X1 := hid x1
  have X2 := hid x2
  have B1 := hid b1
  clear x1 x2 b1
  go_wp2_with fail
  refine (hP.out _ B1.out).mono ?_
  rintro e w2 ⟨rfl, b2⟩
  have B2 := hid (B1.out.trans (b2.mono B1.out.size))
  have y1 : w2.cell? ⟨w.heap.size, 0, none⟩ = some (.slice A n c) := (X1.out.below b2 X1.out.lt).cells 0
  have Y2 := X2.out.below b2 X2.out.lt
  have y2 : w2.cell? ⟨w.heap.size + 1, 0, none⟩ = some (.slice Aj nj cj) := Y2.cells 0
  have y3 : w2.cell? ⟨w.heap.size + 1, 1, none⟩ = some (.slice Ah nh ch) := Y2.cells 1
  have y4 : w2.cell? ⟨w.heap.size + 1, 2, none⟩ = some (.int .i64 mode) := Y2.cells 2
  clear z1 z2 z3 z4 b2 Y2 X1 X2
  go_wp2_with fail
  refine (hS.out _ B2.out).mono ?_
  rintro e w3 ⟨rfl, b3⟩
  go_wp2_with fail
  go_ret2
  exact ⟨by rw [hs'.out] <;> rfl, B2.out.trans (b3.mono B2.out.size)⟩
end Go.Proofs.Ythejnpignlhgiaa.Sei
-- squeezed
