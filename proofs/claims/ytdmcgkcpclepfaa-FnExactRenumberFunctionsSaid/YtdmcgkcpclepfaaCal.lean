import Derived.Test.YtdmcgkcpclepfaaSort
import Derived.Test.YtdmcgkcpclepfaaAsk
import Derived.Test.YtdmcgkcpclepfaaSst
import Derived.Test.YtdmcgkcpclepfaaLawI
import Derived.Deep.AppendLies
set_option linter.all false
namespace Go.Proofs.Ytdmcgkcpclepfaa.CalP
open Lib (hid)
open Go.ChangeShapes Go.WideShapes Go.ChangeAt Go.RowKit
open PL Mem Sst To AskP StpS Res PrgS IntsP LawI SetM SortP
theorem infoInt : (Try.prog.info? 3).map (fun i => (i.zero, i.size, i.bytes)) = some (some (.int .i64 0), 1, 8) := by kernel_rfl
def rawC (b : List Tr) : Nat → List Int
 | 0 => []
 | j + 1 => match b[j]? with
  | some s => if s.1 = 4 ∨ s.1 = 5 then rawC b j ++ [s.2.1] else rawC b j
  | none => rawC b j
theorem rawC_yes {b : List Tr} {j : Nat} {s : Tr} (h : b[j]? = some s) (hs : s.1 = 4 ∨ s.1 = 5) : rawC b (j + 1) = rawC b j ++ [s.2.1] := by rw [rawC, h]; exact if_pos hs
theorem rawC_no {b : List Tr} {j : Nat} {s : Tr} (h : b[j]? = some s) (hs : ¬ (s.1 = 4 ∨ s.1 = 5)) : rawC b (j + 1) = rawC b j := by rw [rawC, h]; exact if_neg hs
theorem rawC_len (b : List Tr) : ∀ j, (rawC b j).length ≤ j
 | 0 => Nat.le_refl _
 | j + 1 => by
  have := rawC_len b j
  rw [rawC]
  split
  ·split
   ·rw [List.length_append, List.length_singleton]; omega
   ·omega
  ·omega
def callsL (p : Pg) (f : Nat) : List Int := setS (rawC (p.getD f []) (p.getD f []).length)
def calledR (p : Pg) (f : Int) : List Int × Bool := if isFn p f = true then (callsL p f.toNat, true) else ([], false)
theorem okProg_row {p : Pg} (h : okProg p = true) {i : Nat} {b : List Tr} (hb : p[i]? = some b) : b.length ≤ 8 := by
 unfold okProg at h
 rw [Bool.and_eq_true, List.all_eq_true] at h
 have h1 := h.2 b (List.mem_of_getElem? hb)
 unfold okBody at h1
 rw [Bool.and_eq_true, decide_eq_true_eq] at h1
 exact h1.1
theorem isFn_row {p : Pg} {f : Int} (h : isFn p f = true) : ∃ (nf : Nat) (b : List Tr), f = nf ∧ p[nf]? = some b ∧ b.length ≤ 8 ∧ nf < p.length ∧ p.length ≤ 6 := by
 unfold isFn at h
 simp only [Bool.and_eq_true, decide_eq_true_eq] at h
 obtain ⟨⟨h1, h2⟩, h3⟩ := h
 obtain ⟨nf, rfl⟩ : ∃ nf : Nat, f = nf := ⟨f.toNat, by omega⟩
 have hlt : nf < p.length := by omega
 refine ⟨nf, _, rfl, List.getElem?_eq_getElem hlt, okProg_row h1 (List.getElem?_eq_getElem hlt), hlt, ?_⟩
 unfold okProg at h1
 simp only [Bool.and_eq_true, decide_eq_true_eq] at h1
 exact h1.1.2
theorem calledR_len (p : Pg) (f : Int) : (calledR p f).1.length ≤ 100000 := by
 unfold calledR
 split
 ·rename_i h
  obtain ⟨nf, b, rfl, hb, h8, _, _⟩ := isFn_row h
  have h1 : p.getD nf [] = b := by rw [List.getD_eq_getElem?_getD, hb]; rfl
  show (callsL p nf).length ≤ 100000
  unfold callsL
  rw [h1]
  have := setS_len (rawC b b.length)
  have := rawC_len b b.length
  omega
 ·simp
set_option maxRecDepth 100000 in
set_option maxHeartbeats 8000000 in
theorem l2Calls_any (n c nf : Nat) (A : Option Addr) (p : Pg) (xs : List Tr) (hn : n ≤ 100) (hl : p.length = n) (hf : p[nf]? = some xs) (h8 : xs.length ≤ 8) (w : World) (hr : RdP w w.heap.size A p) :
  Calls Try.prog 119 #[.agg #[.slice A n c], .int .i64 nf] w fun e w' => ∃ A' c', e = .returned (.slice A' (callsL p nf).length c') ∧ OwnI w' w.heap.size (.slice A' (callsL p nf).length c') (callsL p nf) ∧ Below w.heap.size w w' := by
 have hnf : nf < n := by rw [← hl]; exact (List.getElem?_eq_some_iff.1 hf).1
 have HRES := hid (show callsL p nf = setS (rawC xs xs.length) by unfold callsL; rw [List.getD_eq_getElem?_getD, hf]; rfl)
 have HRW := hid (fun V (b : Below w.heap.size w V) => (hr.below b) nf xs hf)
 obtain ⟨m, hm⟩ : ∃ m, xs.length = m := ⟨_, rfl⟩
 have HM := hid hm
 have HLE := hid (fun j => Nat.le_trans (setS_len (rawC xs j)) (rawC_len xs j))
 have HYES := hid (fun (j : Nat) (s : Tr) (h : xs[j]? = some s) (hs : s.1 = 4 ∨ s.1 = 5) => (show setS (rawC xs (j + 1)) = putS (setS (rawC xs j)) s.2.1 by rw [rawC_yes h hs, setS_snoc]))
 have HNO := hid (fun (j : Nat) (s : Tr) (h : xs[j]? = some s) (hs : ¬ (s.1 = 4 ∨ s.1 = 5)) => (show setS (rawC xs (j + 1)) = setS (rawC xs j) by rw [rawC_no h hs]))
 obtain ⟨ad, Ai, ci, rfl, hab, h0, h1⟩ := (hr) nf xs hf
 rw [hm] at h8
 clear hr hf hl h0 h1 hm
 go_enter Try.func119, Try.ntmps119
 go_upto_region 1 with fail
 change (fun V => Code.wp _ _ _ _ V) _
 refine gen_world (X := fun V => Blk V w.heap.size 31 #[.slice (some ad) n c] ∧ Below w.heap.size w V ∧ w.heap.size < V.heap.size) ⟨heap1_0 w _, (Below.refl _ _).alloc (Nat.le_refl _) _, by simp⟩ ?_
 rintro w1 ⟨x1, b1, l1⟩
 have X1 := hid x1
 have B1 := hid b1
 have HE := hid (show OwnI (w1.alloc (.cells #[] 3)) w1.heap.size (.slice (some ⟨w1.heap.size, 0, none⟩) 0 0) [] from App.empty_own (heap1_0 w1 _) (Nat.le_refl _))
 have B2 := hid (show Below w1.heap.size w1 (w1.alloc (.cells #[] 3)) from (Below.refl _ _).alloc (Nat.le_refl _) _)
 clear x1 b1
 go_wp2_with fail
 go_loopw [5, 6] (fun v i wr => ∃ (j : Nat) (A' : Option Addr) (c' : Nat), j ≤ m ∧ i = .int .i64 j ∧ v = .slice A' (setS (rawC xs j)).length c' ∧ OwnI wr w1.heap.size (.slice A' (setS (rawC xs j)).length c') (setS (rawC xs j)) ∧ Below w1.heap.size w1 wr) (fun _ i _ => m - (intOf i).toNat)
 case atStart => exact ⟨0, _, _, Nat.zero_le _, rfl, rfl, HE.out, B2.out⟩
 case round =>
  obtain ⟨j, A', c', hj, rfl, rfl, hown, hb⟩ := hrel
  clear HE B2
  have hlo := hb.size
  have z0 : wr.cell? ⟨w.heap.size, 0, none⟩ = some (.slice (some ad) n c) := (X1.out.below hb l1).cells 0
  have BW := hid (B1.out.trans (hb.mono B1.out.size))
  obtain ⟨ad', Ai', ci', e1, _, h0, h1⟩ := HRW.out wr BW.out
  cases e1
  rw [HM.out] at h0
  have HB := hid hb
  have O := hid hown
  have hle := HLE.out j
  clear hb hown
  by_cases hlt : j < m
  ·obtain ⟨⟨s0, s1, s2⟩, hs⟩ : ∃ s, xs[j]? = some s := ⟨_, List.getElem?_eq_getElem (by rw [HM.out]; exact hlt)⟩
   obtain ⟨sd, rfl, has, q0, q1, q2⟩ := h1 j _ hs
   have HS := hid hs
   dsimp only at q0 q1 q2
   clear hs h1
   go_upto_region 6 with fail
   change (fun V => Code.wp _ _ _ _ V) _
   refine gen_world (X := fun V => Blk V wr.heap.size 58 #[.int .i64 s0, .int .i64 s1, .int .i64 s2] ∧ OwnI V w1.heap.size (.slice A' (setS (rawC xs j)).length c') (setS (rawC xs j)) ∧ Below w1.heap.size w1 V) ⟨heap1_0 wr _, own_below (B' := wr.heap.size) O.out ((Below.refl _ _).alloc (Nat.le_refl _) _) (Nat.le_refl _), HB.out.alloc hlo _⟩ ?_
   clear HB O z0 h0 q0 q1 q2
   generalize wr.heap.size = bx
   rintro Z ⟨eZ, oZ, bZ⟩
   have y0 : Z.cell? ⟨bx, 0, none⟩ = some (.int .i64 s0) := eZ.cells 0
   have y1 : Z.cell? ⟨bx, 1, none⟩ = some (.int .i64 s1) := eZ.cells 1
   have OZ := hid oZ
   have BZ := hid bZ
   have hlz := bZ.size
   clear eZ oZ bZ
   by_cases hk : s0 = 4 ∨ s0 = 5
   ·have HX := hid (HYES.out j _ HS.out hk)
    have hc' : (setS (rawC xs j)).length ≤ c' := SetM.cap_own OZ.out
    have HP := hid (l1Put_any w1.heap.size (setS (rawC xs j)).length c' A' (setS (rawC xs j)) s1 (by omega) rfl hc' Z OZ.out hlz)
    dsimp only at HX
    generalize setS (rawC xs j) = x at *
    rcases hk with rfl | rfl
    all_goals
     go_wp2_with fail
     refine HP.out.mono ?_
     rintro e w3 ⟨A3, c3, rfl, o3, b3⟩
     have O3 := hid o3
     have B3 := hid (BZ.out.trans (b3.mono hlz))
     clear o3 b3 HP OZ BZ y0 y1
     go_wp2_with fail
     go_roundw
     case rel => exact ⟨j + 1, A3, c3, by omega, by go_num, by rw [HX.out], by rw [HX.out]; exact O3.out, B3.out⟩
     case measure => simp [intOf]; omega
   ·have HX := hid (HNO.out j _ HS.out hk)
    have k4 : (s0 == 4) = false := by simp; omega
    have k5 : (s0 == 5) = false := by simp; omega
    clear hk
    generalize setS (rawC xs j) = x at *
    go_wp2_with fail
    go_roundw
    case rel => exact ⟨j + 1, A', c', by omega, by go_num, by rw [HX.out], by rw [HX.out]; exact OZ.out, BZ.out⟩
    case measure => simp [intOf]; omega
  ·obtain rfl : j = m := by omega
   go_wp2_with fail
   go_ret
   exact ⟨A', c', by rw [HRES.out, HM.out] <;> rfl, by rw [HRES.out, HM.out]; exact own_mono O.out (Nat.le_of_lt l1), BW.out⟩
set_option maxRecDepth 100000 in
set_option maxHeartbeats 8000000 in
theorem calI_any (lo n c : Nat) (A : Option Addr) (p : Pg) (f : Int) (hn : n ≤ 9223372036854775807) (hl : p.length = n) (hsm : Small p 9223372036854775807) (w : World) (ho : OwnP w lo (.slice A n c) p) :
  Calls Try.prog 120 #[.agg #[.slice A n c], .int .i64 f] w (IntsR (calledR p f) w) := by
 obtain ⟨i0, hi, hz0, hz1, hz2⟩ := info_parts infoInt
 have hF := hid (fun W (h : Below w.heap.size w W) => isFunction_any w.heap.size A n c p f hn hl hsm W (ho.rd.below h) h.size)
 have hRD := hid (fun W (h : Below w.heap.size w W) => ho.rd.below h)
 have hr : calledR p f = if isFn p f = true then (callsL p f.toNat, true) else ([], false) := rfl
 have hrow : isFn p f = true → _ := isFn_row
 rw [hl] at hrow
 generalize isFn p f = R at *
 have HR := hid hr
 clear ho hsm hr
 go_enter Try.func120, Try.ntmps120
 go_upto_region 1 with fail
 change (fun V => Code.wp _ _ _ _ V) _
 refine gen_world (X := fun V => Blk V w.heap.size 31 #[.slice A n c] ∧ Below w.heap.size w V ∧ w.heap.size < V.heap.size) ⟨heap1_0 w _, (Below.refl _ _).alloc (Nat.le_refl _) _, by simp⟩ ?_
 rintro w1 ⟨x1, b1, l1⟩
 have z1 : w1.cell? ⟨w.heap.size, 0, none⟩ = some (.slice A n c) := x1.cells 0
 have X1 := hid x1
 have B1 := hid b1
 clear x1 b1
 cases R with
 | false =>
  clear hrow
  go_wp2_with fail
  refine (hF.out _ B1.out).mono ?_
  rintro e w2 ⟨rfl, b2⟩
  have B2 := hid (B1.out.trans (b2.mono B1.out.size))
  have hsz := B2.out.size
  clear b2
  go_wp2_with fail
  go_ret2
  exact ⟨_, _, by rw [HR.out] <;> rfl, by rw [HR.out]; exact App.empty_own (heap1_0 w2 _) hsz, B2.out.alloc hsz _⟩
 | true =>
  obtain ⟨nf, xs, rfl, hx, h8, hnf, hn6⟩ := hrow rfl
  have HRES := hid (show callsL p nf = setS (rawC xs xs.length) by unfold callsL; rw [List.getD_eq_getElem?_getD, hx]; rfl)
  obtain ⟨ad, Ai, ci, rfl, hab, h0, h1⟩ := hRD.out w (Below.refl _ _) nf xs hx
  have HROW := hid (fun (V : World) (b : Below w.heap.size w V) => (show V.cell? (ad.add nf) = some (.slice Ai xs.length ci) from (b.cell (by rw [block_of_add]; exact hab)).trans h0))
  have HR3 := hid (fun (V : World) (b : Below w.heap.size w V) => (show Rd3 V w.heap.size Ai xs from h1.below b))
  clear h0 h1
  obtain ⟨m, hm⟩ : ∃ m, xs.length = m := ⟨_, rfl⟩
  have HM := hid hm
  have HLE := hid (fun j => rawC_len xs j)
  have HYES := hid (fun (j : Nat) (s : Tr) (h : xs[j]? = some s) (hs : s.1 = 4 ∨ s.1 = 5) => rawC_yes h hs)
  have HNO := hid (fun (j : Nat) (s : Tr) (h : xs[j]? = some s) (hs : ¬ (s.1 = 4 ∨ s.1 = 5)) => rawC_no h hs)
  rw [hm] at h8 HROW
  clear hrow hx hm hRD
  go_wp2_with fail
  refine (hF.out _ B1.out).mono ?_
  rintro e w2 ⟨rfl, b2⟩
  have X2 := hid (X1.out.below b2 l1)
  have B2 := hid (B1.out.trans (b2.mono B1.out.size))
  have l2 : w.heap.size < w2.heap.size := Nat.lt_of_lt_of_le l1 b2.size
  clear b2 z1 X1
  go_upto_region 4 with fail
  change (fun V => Code.wp _ _ _ _ V) _
  refine gen_world (X := fun V => OwnI V w2.heap.size (.slice (some ⟨w2.heap.size, 0, none⟩) 0 0) [] ∧ Below w2.heap.size w2 V) ⟨App.empty_own (heap1_0 w2 _) (Nat.le_refl _), (Below.refl _ _).alloc (Nat.le_refl _) _⟩ ?_
  rintro w3 ⟨o3, b3⟩
  have z3 : w3.cell? ⟨w.heap.size, 0, none⟩ = some (.slice (some ad) n c) := (X2.out.below b3 l2).cells 0
  have B3 := hid b3
  have HE := hid o3
  have h0 := HROW.out w3 (B2.out.trans (b3.mono B2.out.size))
  clear b3 o3
  generalize (some ⟨w2.heap.size, 0, none⟩ : Option Addr) = E0 at *
  go_wp2_with fail
  go_loopw [6, 21] (fun v i wr => ∃ (j : Nat) (A' : Option Addr) (c' : Nat), j ≤ m ∧ i = .int .i64 j ∧ v = .slice A' (rawC xs j).length c' ∧ OwnI wr w2.heap.size (.slice A' (rawC xs j).length c') (rawC xs j) ∧ Below w2.heap.size w2 wr) (fun _ i _ => m - (intOf i).toNat)
  case atStart => exact ⟨0, E0, 0, Nat.zero_le _, rfl, rfl, HE.out, B3.out⟩
  case round =>
   obtain ⟨j, A', c', hj, rfl, rfl, hown, hb⟩ := hrel
   clear HE B3 z3 h0
   have hlo := hb.size
   have BW := hid (B2.out.trans (hb.mono B2.out.size))
   have HB := hid hb
   have O := hid hown
   have hle := HLE.out j
   clear hb hown
   by_cases hlt : j < m
   ·obtain ⟨⟨s0, s1, s2⟩, hs⟩ : ∃ s, xs[j]? = some s := ⟨_, List.getElem?_eq_getElem (by rw [HM.out]; exact hlt)⟩
    obtain ⟨sd, rfl, has, q0, q1, q2⟩ := (HR3.out wr BW.out) j _ hs
    have HS := hid hs
    dsimp only at q0 q1 q2
    clear hs
    go_upto_region 7 with fail
    change (fun V => Code.wp _ _ _ _ V) _
    refine gen_world (X := fun V => Blk V wr.heap.size 58 #[.int .i64 s0, .int .i64 s1, .int .i64 s2] ∧ OwnI V w2.heap.size (.slice A' (rawC xs j).length c') (rawC xs j) ∧ Below w2.heap.size w2 V) ⟨heap1_0 wr _, own_below (B' := wr.heap.size) O.out ((Below.refl _ _).alloc (Nat.le_refl _) _) (Nat.le_refl _), HB.out.alloc hlo _⟩ ?_
    clear HB O q0 q1 q2
    generalize wr.heap.size = bx
    rintro Z ⟨eZ, oZ, bZ⟩
    have y0 : Z.cell? ⟨bx, 0, none⟩ = some (.int .i64 s0) := eZ.cells 0
    have y1 : Z.cell? ⟨bx, 1, none⟩ = some (.int .i64 s1) := eZ.cells 1
    have OZ := hid oZ
    have BZ := hid bZ
    have hlz := bZ.size
    clear eZ oZ bZ
    by_cases hk : s0 = 4 ∨ s0 = 5
    ·have HX := hid (HYES.out j _ HS.out hk)
     dsimp only at HX
     generalize rawC xs j = q at *
     rcases hk with rfl | rfl
     ·go_wp2_with (at_builtin; refine wpList_append_lies _ rfl _ _ 26 rfl w2.heap.size 3 i0 _ 1 8 Try.underlying26 hi hz0 hz1 hz2 rfl (by decide) _ _ _ rfl (World.ownsRow.alloc OZ.out _) ⟨Z.heap.size, 0, none⟩ 1 1 [.int .i64 s1] rfl rfl ?cn_1 ?co_1 (by decide) ?c63_1 ?cb_1 ?cl_1 (Z.heap.size + 1) ?cH_1 ?next_1)
      (try (case cn_1 => exact World.news_of_block (cs := #[.int .i64 s1]) (t := 3) (fr := (0, 0)) (heap_alloc_new _ _)))
      case co_1 => first | (intro u hu; simp at hu; rcases hu with rfl; rfl) | simp [Value.oneCell']
      case c63_1 => first | (unfold maxLen; omega) | omega
      case cb_1 => omega
      case cl_1 => first | (simp; omega) | omega
      (try (case cH_1 => simp))
      case next_1 =>
       intro g2 cap2 w2' hown2 hgrow2 hat2 hlt2
       have c2' : Chg (fun y => (Value.slice A' q.length c').ownBlock = some y) Z w2' := (Chg.alloc _ Z _).trans (Chg.of_grown hgrow2) (fun x _ hx => hx.symm)
       have B2' := hid (BZ.out.trans (c2'.below hlz (fun x hx e => by have := (World.ownsRow.lt OZ.out x e).1; omega)))
       have O2 := hid hown2
       clear hown2 hgrow2 hat2 c2'
       go_wp2_with fail
       go_roundw
       case rel =>
        refine ⟨j + 1, some ⟨g2, 0, none⟩, cap2, by omega, by go_num, ?_, ?_, B2'.out⟩
        ·rw [HX.out, List.length_append, List.length_singleton]
        ·rw [HX.out]
         unfold OwnI
         rw [List.length_append, List.length_singleton, cellsI_append]
         exact O2.out
       case measure => simp [intOf]; omega
     ·go_wp2_with (at_builtin; refine wpList_append_lies _ rfl _ _ 26 rfl w2.heap.size 3 i0 _ 1 8 Try.underlying26 hi hz0 hz1 hz2 rfl (by decide) _ _ _ rfl (World.ownsRow.alloc OZ.out _) ⟨Z.heap.size, 0, none⟩ 1 1 [.int .i64 s1] rfl rfl ?cn_2 ?co_2 (by decide) ?c63_2 ?cb_2 ?cl_2 (Z.heap.size + 1) ?cH_2 ?next_2)
      (try (case cn_2 => exact World.news_of_block (cs := #[.int .i64 s1]) (t := 3) (fr := (0, 0)) (heap_alloc_new _ _)))
      case co_2 => first | (intro u hu; simp at hu; rcases hu with rfl; rfl) | simp [Value.oneCell']
      case c63_2 => first | (unfold maxLen; omega) | omega
      case cb_2 => omega
      case cl_2 => first | (simp; omega) | omega
      (try (case cH_2 => simp))
      case next_2 =>
       intro g2 cap2 w2' hown2 hgrow2 hat2 hlt2
       have c2' : Chg (fun y => (Value.slice A' q.length c').ownBlock = some y) Z w2' := (Chg.alloc _ Z _).trans (Chg.of_grown hgrow2) (fun x _ hx => hx.symm)
       have B2' := hid (BZ.out.trans (c2'.below hlz (fun x hx e => by have := (World.ownsRow.lt OZ.out x e).1; omega)))
       have O2 := hid hown2
       clear hown2 hgrow2 hat2 c2'
       go_wp2_with fail
       go_roundw
       case rel =>
        refine ⟨j + 1, some ⟨g2, 0, none⟩, cap2, by omega, by go_num, ?_, ?_, B2'.out⟩
        ·rw [HX.out, List.length_append, List.length_singleton]
        ·rw [HX.out]
         unfold OwnI
         rw [List.length_append, List.length_singleton, cellsI_append]
         exact O2.out
       case measure => simp [intOf]; omega
    ·have HX := hid (HNO.out j _ HS.out hk)
     have k4 : (s0 == 4) = false := by simp; omega
     have k5 : (s0 == 5) = false := by simp; omega
     clear hk
     generalize rawC xs j = x at *
     go_wp2_with fail
     go_roundw
     case rel => exact ⟨j + 1, A', c', by omega, by go_num, by rw [HX.out], by rw [HX.out]; exact OZ.out, BZ.out⟩
     case measure => simp [intOf]; omega
   ·obtain rfl : j = m := by omega
    obtain ⟨q, hq⟩ : ∃ q, rawC xs j = q := ⟨_, rfl⟩
    have HQ := hid (show callsL p nf = setS q by rw [HRES.out, HM.out, hq])
    rw [hq] at hle
    rw [hq] at O
    obtain ⟨mq, hmq⟩ : ∃ mq, q.length = mq := ⟨_, rfl⟩
    have HMQ := hid hmq
    have hOI : wr.ownsRow w2.heap.size 3 1 (.slice A' mq c') mq (cellsI q) := by have := O.out; unfold OwnI at this; rwa [hmq] at this
    have HOI := hid hOI
    have HSO := hid (sort_any w2.heap.size mq c' A' q hmq (by omega) wr hOI)
    rw [hq, hmq]
    rw [hmq] at hle
    clear hq hmq hOI O
    go_wp2_with fail
    refine HSO.out.mono ?_
    rintro e w4 ⟨rfl, o4, ch4⟩
    have O4 := hid o4
    have B4 := hid (HB.out.trans (ch4.below hlo (fun x hx e => by have := (World.ownsRow.lt HOI.out x e).1; omega)))
    have HCO := hid (compact_any w2.heap.size mq c' A' (sortI q) ((sortI_len q).trans HMQ.out) (by omega) w4 o4)
    clear o4 ch4 HSO HOI HB
    go_wp2_with fail
    refine HCO.out.mono ?_
    rintro e w5 ⟨rfl, o5, ch5⟩
    have O5 := hid o5
    have B5 := hid (B4.out.trans (ch5.below B4.out.size (fun x hx e => by have := (World.ownsRow.lt O4.out x e).1; omega)))
    clear o5 ch5 HCO O4 B4
    go_wp2_with fail
    go_ret2
    refine ⟨A', c', ?_, ?_, B2.out.trans (B5.out.mono B2.out.size)⟩
    ·rw [HR.out, if_pos trivial, Int.toNat_natCast, HQ.out, ← compact_sort] <;> rfl
    ·rw [HR.out, if_pos trivial, Int.toNat_natCast, HQ.out, ← compact_sort]
     exact own_mono O5.out B2.out.size
end Go.Proofs.Ytdmcgkcpclepfaa.CalP
-- squeezed
