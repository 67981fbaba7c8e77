import Derived.Test.YtdmcgkcpclepfaaSetM
import Derived.Test.YtdmcgkcpclepfaaAsk
import Derived.Test.YtdmcgkcpclepfaaSst
import Derived.Test.YtdmcgkcpclepfaaLawI
import Derived.Deep.AppendLies
set_option linter.all false
namespace Go.Proofs.Ytdmcgkcpclepfaa.Gua
open Lib (hid)
open Go.ChangeShapes Go.WideShapes Go.ChangeAt Go.RowKit
open PL Mem Sst To AskP StpS Res PrgS IntsP LawI SetM
theorem infoInt : (Try.prog.info? 3).map (fun i => (i.zero, i.size, i.bytes)) = some (some (.int .i64 0), 1, 8) := by kernel_rfl
def rawD (b : List Tr) : Nat → List Int
 | 0 => []
 | j + 1 => match b[j]? with
  | some s => if s.1 = 5 then rawD b j ++ [s.2.1] else rawD b j
  | none => rawD b j
theorem rawD_yes {b : List Tr} {j : Nat} {s : Tr} (h : b[j]? = some s) (hs : s.1 = 5) : rawD b (j + 1) = rawD b j ++ [s.2.1] := by rw [rawD, h]; exact if_pos hs
theorem rawD_no {b : List Tr} {j : Nat} {s : Tr} (h : b[j]? = some s) (hs : ¬ s.1 = 5) : rawD b (j + 1) = rawD b j := by rw [rawD, h]; exact if_neg hs
theorem rawD_len (b : List Tr) : ∀ j, (rawD b j).length ≤ j
 | 0 => Nat.le_refl _
 | j + 1 => by
  have := rawD_len b j
  rw [rawD]
  split
  ·split
   ·rw [List.length_append, List.length_singleton]; omega
   ·omega
  ·omega
def defL (p : Pg) (f : Nat) : List Int := setS (rawD (p.getD f []) (p.getD f []).length)
def recs (b : List Tr) : Nat → List Int
 | 0 => []
 | j + 1 => match b[j]? with
  | some s => if s.1 = 7 then recs b j ++ [(j : Int)] else recs b j
  | none => recs b j
theorem recs_yes {b : List Tr} {j : Nat} {s : Tr} (h : b[j]? = some s) (hs : s.1 = 7) : recs b (j + 1) = recs b j ++ [(j : Int)] := by rw [recs, h]; exact if_pos hs
theorem recs_no {b : List Tr} {j : Nat} {s : Tr} (h : b[j]? = some s) (hs : ¬ s.1 = 7) : recs b (j + 1) = recs b j := by rw [recs, h]; exact if_neg hs
theorem recs_len (b : List Tr) : ∀ j, (recs b j).length ≤ j
 | 0 => Nat.le_refl _
 | j + 1 => by
  have := recs_len b j
  rw [recs]
  split
  ·split
   ·rw [List.length_append, List.length_singleton]; omega
   ·omega
  ·omega
def recL (b : List Tr) : List Int := recs b b.length
set_option maxRecDepth 100000 in
set_option maxHeartbeats 8000000 in
theorem l5Defers_any (n c nf : Nat) (A : Option Addr) (p : Pg) (xs : List Tr) (hn : n ≤ 100) (hl : p.length = n) (hf : p[nf]? = some xs) (h8 : xs.length ≤ 8) (w : World) (hr : RdP w w.heap.size A p) :
  Calls Try.prog 90 #[.agg #[.slice A n c], .int .i64 nf] w fun e w' => ∃ A' c', e = .returned (.slice A' (defL p nf).length c') ∧ OwnI w' w.heap.size (.slice A' (defL p nf).length c') (defL p nf) ∧ Below w.heap.size w w' := by
 have hnf : nf < n := by rw [← hl]; exact (List.getElem?_eq_some_iff.1 hf).1
 have HRES := hid (show defL p nf = setS (rawD xs xs.length) by unfold defL; rw [List.getD_eq_getElem?_getD, hf]; rfl)
 have HRW := hid (fun V (b : Below w.heap.size w V) => (hr.below b) nf xs hf)
 obtain ⟨m, hm⟩ : ∃ m, xs.length = m := ⟨_, rfl⟩
 have HM := hid hm
 have HLE := hid (fun j => Nat.le_trans (setS_len (rawD xs j)) (rawD_len xs j))
 have HYES := hid (fun (j : Nat) (s : Tr) (h : xs[j]? = some s) (hs : s.1 = 5) => (show setS (rawD xs (j + 1)) = putS (setS (rawD xs j)) s.2.1 by rw [rawD_yes h hs, setS_snoc]))
 have HNO := hid (fun (j : Nat) (s : Tr) (h : xs[j]? = some s) (hs : ¬ (s.1 = 5)) => (show setS (rawD xs (j + 1)) = setS (rawD xs j) by rw [rawD_no h hs]))
 obtain ⟨ad, Ai, ci, rfl, hab, h0, h1⟩ := (hr) nf xs hf
 rw [hm] at h8
 clear hr hf hl h0 h1 hm
 go_enter Try.func90, Try.ntmps90
 go_upto_region 1 with fail
 change (fun V => Code.wp _ _ _ _ V) _
 refine gen_world (X := fun V => Blk V w.heap.size 31 #[.slice (some ad) n c] ∧ Below w.heap.size w V ∧ w.heap.size < V.heap.size) ⟨heap1_0 w _, (Below.refl _ _).alloc (Nat.le_refl _) _, by simp⟩ ?_
 rintro w1 ⟨x1, b1, l1⟩
 have X1 := hid x1
 have B1 := hid b1
 have HE := hid (show OwnI (w1.alloc (.cells #[] 3)) w1.heap.size (.slice (some ⟨w1.heap.size, 0, none⟩) 0 0) [] from App.empty_own (heap1_0 w1 _) (Nat.le_refl _))
 have B2 := hid (show Below w1.heap.size w1 (w1.alloc (.cells #[] 3)) from (Below.refl _ _).alloc (Nat.le_refl _) _)
 clear x1 b1
 go_wp2_with fail
 go_loopw [5, 6] (fun v i wr => ∃ (j : Nat) (A' : Option Addr) (c' : Nat), j ≤ m ∧ i = .int .i64 j ∧ v = .slice A' (setS (rawD xs j)).length c' ∧ OwnI wr w1.heap.size (.slice A' (setS (rawD xs j)).length c') (setS (rawD xs j)) ∧ Below w1.heap.size w1 wr) (fun _ i _ => m - (intOf i).toNat)
 case atStart => exact ⟨0, _, _, Nat.zero_le _, rfl, rfl, HE.out, B2.out⟩
 case round =>
  obtain ⟨j, A', c', hj, rfl, rfl, hown, hb⟩ := hrel
  clear HE B2
  have hlo := hb.size
  have z0 : wr.cell? ⟨w.heap.size, 0, none⟩ = some (.slice (some ad) n c) := (X1.out.below hb l1).cells 0
  have BW := hid (B1.out.trans (hb.mono B1.out.size))
  obtain ⟨ad', Ai', ci', e1, _, h0, h1⟩ := HRW.out wr BW.out
  cases e1
  rw [HM.out] at h0
  have HB := hid hb
  have O := hid hown
  have hle := HLE.out j
  clear hb hown
  by_cases hlt : j < m
  ·obtain ⟨⟨s0, s1, s2⟩, hs⟩ : ∃ s, xs[j]? = some s := ⟨_, List.getElem?_eq_getElem (by rw [HM.out]; exact hlt)⟩
   obtain ⟨sd, rfl, has, q0, q1, q2⟩ := h1 j _ hs
   have HS := hid hs
   dsimp only at q0 q1 q2
   clear hs h1
   go_upto_region 6 with fail
   change (fun V => Code.wp _ _ _ _ V) _
   refine gen_world (X := fun V => Blk V wr.heap.size 58 #[.int .i64 s0, .int .i64 s1, .int .i64 s2] ∧ OwnI V w1.heap.size (.slice A' (setS (rawD xs j)).length c') (setS (rawD xs j)) ∧ Below w1.heap.size w1 V) ⟨heap1_0 wr _, own_below (B' := wr.heap.size) O.out ((Below.refl _ _).alloc (Nat.le_refl _) _) (Nat.le_refl _), HB.out.alloc hlo _⟩ ?_
   clear HB O z0 h0 q0 q1 q2
   generalize wr.heap.size = bx
   rintro Z ⟨eZ, oZ, bZ⟩
   have y0 : Z.cell? ⟨bx, 0, none⟩ = some (.int .i64 s0) := eZ.cells 0
   have y1 : Z.cell? ⟨bx, 1, none⟩ = some (.int .i64 s1) := eZ.cells 1
   have OZ := hid oZ
   have BZ := hid bZ
   have hlz := bZ.size
   clear eZ oZ bZ
   by_cases hk : s0 = 5
   ·have HX := hid (HYES.out j _ HS.out hk)
    have hc' : (setS (rawD xs j)).length ≤ c' := SetM.cap_own OZ.out
    have HP := hid (l1Put_any w1.heap.size (setS (rawD xs j)).length c' A' (setS (rawD xs j)) s1 (by omega) rfl hc' Z OZ.out hlz)
    dsimp only at HX
    generalize setS (rawD xs j) = x at *
    subst hk
    go_wp2_with fail
    refine HP.out.mono ?_
    rintro e w3 ⟨A3, c3, rfl, o3, b3⟩
    have O3 := hid o3
    have B3 := hid (BZ.out.trans (b3.mono hlz))
    clear o3 b3 HP OZ BZ y0 y1
    go_wp2_with fail
    go_roundw
    case rel => exact ⟨j + 1, A3, c3, by omega, by go_num, by rw [HX.out], by rw [HX.out]; exact O3.out, B3.out⟩
    case measure => simp [intOf]; omega
   ·have HX := hid (HNO.out j _ HS.out hk)
    have k5 : (s0 == 5) = false := by simp; omega
    clear hk
    generalize setS (rawD xs j) = x at *
    go_wp2_with fail
    go_roundw
    case rel => exact ⟨j + 1, A', c', by omega, by go_num, by rw [HX.out], by rw [HX.out]; exact OZ.out, BZ.out⟩
    case measure => simp [intOf]; omega
  ·obtain rfl : j = m := by omega
   go_wp2_with fail
   go_ret
   exact ⟨A', c', by rw [HRES.out, HM.out] <;> rfl, by rw [HRES.out, HM.out]; exact own_mono O.out (Nat.le_of_lt l1), BW.out⟩
set_option maxRecDepth 100000 in
set_option maxHeartbeats 8000000 in
theorem l5Recovers_any (n c nf : Nat) (A : Option Addr) (p : Pg) (xs : List Tr) (hn : n ≤ 100) (hl : p.length = n) (hf : p[nf]? = some xs) (h8 : xs.length ≤ 8) (w : World) (hr : RdP w w.heap.size A p) :
  Calls Try.prog 92 #[.agg #[.slice A n c], .int .i64 nf] w fun e w' => ∃ A' c', e = .returned (.slice A' (recL xs).length c') ∧ OwnI w' w.heap.size (.slice A' (recL xs).length c') (recL xs) ∧ Below w.heap.size w w' := by
 obtain ⟨i0, hi, hz0, hz1, hz2⟩ := info_parts infoInt
 have hnf : nf < n := by rw [← hl]; exact (List.getElem?_eq_some_iff.1 hf).1
 have HRES := hid (show recL xs = recs xs xs.length from rfl)
 have HRW := hid (fun V (b : Below w.heap.size w V) => (hr.below b) nf xs hf)
 obtain ⟨m, hm⟩ : ∃ m, xs.length = m := ⟨_, rfl⟩
 have HM := hid hm
 have HLE := hid (fun j => recs_len xs j)
 have HYES := hid (fun (j : Nat) (s : Tr) (h : xs[j]? = some s) (hs : s.1 = 7) => recs_yes h hs)
 have HNO := hid (fun (j : Nat) (s : Tr) (h : xs[j]? = some s) (hs : ¬ s.1 = 7) => recs_no h hs)
 obtain ⟨ad, Ai, ci, rfl, hab, h0, h1⟩ := hr nf xs hf
 rw [hm] at h8
 clear hr hf hl h0 h1 hm
 go_enter Try.func92, Try.ntmps92
 go_upto_region 1 with fail
 change (fun V => Code.wp _ _ _ _ V) _
 refine gen_world (X := fun V => Blk V w.heap.size 31 #[.slice (some ad) n c] ∧ Below w.heap.size w V ∧ w.heap.size < V.heap.size) ⟨heap1_0 w _, (Below.refl _ _).alloc (Nat.le_refl _) _, by simp⟩ ?_
 rintro w1 ⟨x1, b1, l1⟩
 have X1 := hid x1
 have B1 := hid b1
 have HE := hid (show OwnI (w1.alloc (.cells #[] 3)) w1.heap.size (.slice (some ⟨w1.heap.size, 0, none⟩) 0 0) [] from App.empty_own (heap1_0 w1 _) (Nat.le_refl _))
 have B2 := hid (show Below w1.heap.size w1 (w1.alloc (.cells #[] 3)) from (Below.refl _ _).alloc (Nat.le_refl _) _)
 clear x1 b1
 go_wp2_with fail
 go_loopw [5, 6] (fun v i wr => ∃ (j : Nat) (A' : Option Addr) (c' : Nat), j ≤ m ∧ i = .int .i64 j ∧ v = .slice A' (recs xs j).length c' ∧ OwnI wr w1.heap.size (.slice A' (recs xs j).length c') (recs xs j) ∧ Below w1.heap.size w1 wr) (fun _ i _ => m - (intOf i).toNat)
 case atStart => exact ⟨0, _, _, Nat.zero_le _, rfl, rfl, HE.out, B2.out⟩
 case round =>
  obtain ⟨j, A', c', hj, rfl, rfl, hown, hb⟩ := hrel
  clear HE B2
  have hlo := hb.size
  have z0 : wr.cell? ⟨w.heap.size, 0, none⟩ = some (.slice (some ad) n c) := (X1.out.below hb l1).cells 0
  have BW := hid (B1.out.trans (hb.mono B1.out.size))
  obtain ⟨ad', Ai', ci', e1, _, h0, h1⟩ := HRW.out wr BW.out
  cases e1
  rw [HM.out] at h0
  have HB := hid hb
  have O := hid hown
  have hle := HLE.out j
  clear hb hown
  by_cases hlt : j < m
  ·obtain ⟨⟨s0, s1, s2⟩, hs⟩ : ∃ s, xs[j]? = some s := ⟨_, List.getElem?_eq_getElem (by rw [HM.out]; exact hlt)⟩
   obtain ⟨sd, rfl, has, q0, q1, q2⟩ := h1 j _ hs
   have HS := hid hs
   dsimp only at q0 q1 q2
   clear hs h1 has
   by_cases hk : s0 = 7
   ·have HX := hid (HYES.out j _ HS.out hk)
    clear HYES HNO HLE HRES
    generalize recs xs j = q at *
    subst hk
    go_wp2_with (at_builtin; refine wpList_append_lies _ rfl _ _ 26 rfl w1.heap.size 3 i0 _ 1 8 Try.underlying26 hi hz0 hz1 hz2 rfl (by decide) _ _ _ rfl (World.ownsRow.alloc O.out _) ⟨wr.heap.size, 0, none⟩ 1 1 [.int .i64 j] rfl rfl ?cn ?co (by decide) ?c63 ?cb ?cl (wr.heap.size + 1) ?cH ?next)
    (try (case cn => exact World.news_of_block (cs := #[.int .i64 j]) (t := 3) (fr := (0, 0)) (heap_alloc_new _ _)))
    case co => first | (intro u hu; simp at hu; rcases hu with rfl; rfl) | simp [Value.oneCell']
    case c63 => first | (unfold maxLen; omega) | omega
    case cb => omega
    case cl => first | (simp; omega) | omega
    (try (case cH => simp))
    case next =>
     intro g2 cap2 w2' hown2 hgrow2 hat2 hlt2
     have c2' : Chg (fun y => (Value.slice A' q.length c').ownBlock = some y) wr w2' := (Chg.alloc _ wr _).trans (Chg.of_grown hgrow2) (fun x _ hx => hx.symm)
     have B2' := hid (HB.out.trans (c2'.below hlo (fun x hx e => by have := (World.ownsRow.lt O.out x e).1; omega)))
     have O2 := hid hown2
     clear hown2 hgrow2 hat2 c2'
     go_wp2_with fail
     go_roundw
     case rel =>
      refine ⟨j + 1, some ⟨g2, 0, none⟩, cap2, by omega, by go_num, ?_, ?_, B2'.out⟩
      ·rw [HX.out, List.length_append, List.length_singleton]
      ·rw [HX.out]
       unfold OwnI
       rw [List.length_append, List.length_singleton, cellsI_append]
       exact O2.out
     case measure => simp [intOf]; omega
   ·have HX := hid (HNO.out j _ HS.out hk)
    have k7 : (s0 == 7) = false := by simp; omega
    clear hk
    generalize recs xs j = x at *
    go_wp2_with fail
    go_roundw
    case rel => exact ⟨j + 1, A', c', by omega, by go_num, by rw [HX.out], by rw [HX.out]; exact O.out, HB.out⟩
    case measure => simp [intOf]; omega
  ·obtain rfl : j = m := by omega
   go_wp2_with fail
   go_ret
   exact ⟨A', c', by rw [HRES.out, HM.out] <;> rfl, by rw [HRES.out, HM.out]; exact own_mono O.out (Nat.le_of_lt l1), BW.out⟩
set_option maxRecDepth 100000 in
set_option maxHeartbeats 8000000 in
theorem recoversIn_any (m ci : Nat) (Ai : Option Addr) (xs : List Tr) (hm : xs.length = m) (h8 : m ≤ 8) (B0 : Nat) (w : World) (hB : B0 ≤ w.heap.size) (hr : Rd3 w B0 Ai xs) :
  Calls Try.prog 96 #[.slice Ai m ci] w fun e w' => ∃ A' c', e = .returned (.slice A' (recL xs).length c') ∧ OwnI w' w.heap.size (.slice A' (recL xs).length c') (recL xs) ∧ Below w.heap.size w w' := by
 obtain ⟨i0, hi, hz0, hz1, hz2⟩ := info_parts infoInt
 have HRES := hid (show recL xs = recs xs xs.length from rfl)
 have HR3 := hid (fun (V : World) (b : Below w.heap.size w V) => (hr.below (b.mono hB)))
 have HM := hid hm
 have HLE := hid (fun j => recs_len xs j)
 have HYES := hid (fun (j : Nat) (s : Tr) (h : xs[j]? = some s) (hs : s.1 = 7) => recs_yes h hs)
 have HNO := hid (fun (j : Nat) (s : Tr) (h : xs[j]? = some s) (hs : ¬ s.1 = 7) => recs_no h hs)
 clear hr hm
 go_enter Try.func96, Try.ntmps96
 have HE := hid (show OwnI (w.alloc (.cells #[] 3)) w.heap.size (.slice (some ⟨w.heap.size, 0, none⟩) 0 0) [] from App.empty_own (heap1_0 w _) (Nat.le_refl _))
 have B2 := hid (show Below w.heap.size w (w.alloc (.cells #[] 3)) from (Below.refl _ _).alloc (Nat.le_refl _) _)
 go_wp2_with fail
 go_loopw [3, 9] (fun v i wr => ∃ (j : Nat) (A' : Option Addr) (c' : Nat), j ≤ m ∧ i = .int .i64 j ∧ v = .slice A' (recs xs j).length c' ∧ OwnI wr w.heap.size (.slice A' (recs xs j).length c') (recs xs j) ∧ Below w.heap.size w wr) (fun _ i _ => m - (intOf i).toNat)
 case atStart => exact ⟨0, _, _, Nat.zero_le _, rfl, rfl, HE.out, B2.out⟩
 case round =>
  obtain ⟨j, A', c', hj, rfl, rfl, hown, hb⟩ := hrel
  clear HE B2
  have hlo := hb.size
  have HB := hid hb
  have O := hid hown
  have hle := HLE.out j
  clear hb hown
  by_cases hlt : j < m
  ·obtain ⟨⟨s0, s1, s2⟩, hs⟩ : ∃ s, xs[j]? = some s := ⟨_, List.getElem?_eq_getElem (by rw [HM.out]; exact hlt)⟩
   obtain ⟨sd, rfl, has, q0, q1, q2⟩ := (HR3.out wr HB.out) j _ hs
   have HS := hid hs
   dsimp only at q0 q1 q2
   clear hs has
   go_upto_region 5 with fail
   change (fun V => Code.wp _ _ _ _ V) _
   refine gen_world (X := fun V => Blk V wr.heap.size 58 #[.int .i64 s0, .int .i64 s1, .int .i64 s2] ∧ OwnI V w.heap.size (.slice A' (recs xs j).length c') (recs xs j) ∧ Below w.heap.size w V) ⟨heap1_0 wr _, own_below (B' := wr.heap.size) O.out ((Below.refl _ _).alloc (Nat.le_refl _) _) (Nat.le_refl _), HB.out.alloc hlo _⟩ ?_
   clear HB O q0 q1 q2
   generalize wr.heap.size = bx
   rintro Z ⟨eZ, oZ, bZ⟩
   have y0 : Z.cell? ⟨bx, 0, none⟩ = some (.int .i64 s0) := eZ.cells 0
   have OZ := hid oZ
   have BZ := hid bZ
   have hlz := bZ.size
   clear eZ oZ bZ
   by_cases hk : s0 = 7
   ·have HX := hid (HYES.out j _ HS.out hk)
    clear HYES HNO HLE HRES
    generalize recs xs j = q at *
    subst hk
    go_wp2_with (at_builtin; refine wpList_append_lies _ rfl _ _ 26 rfl w.heap.size 3 i0 _ 1 8 Try.underlying26 hi hz0 hz1 hz2 rfl (by decide) _ _ _ rfl (World.ownsRow.alloc OZ.out _) ⟨Z.heap.size, 0, none⟩ 1 1 [.int .i64 j] rfl rfl ?cn ?co (by decide) ?c63 ?cb ?cl (Z.heap.size + 1) ?cH ?next)
    (try (case cn => exact World.news_of_block (cs := #[.int .i64 j]) (t := 3) (fr := (0, 0)) (heap_alloc_new _ _)))
    case co => first | (intro u hu; simp at hu; rcases hu with rfl; rfl) | simp [Value.oneCell']
    case c63 => first | (unfold maxLen; omega) | omega
    case cb => omega
    case cl => first | (simp; omega) | omega
    (try (case cH => simp))
    case next =>
     intro g2 cap2 w2' hown2 hgrow2 hat2 hlt2
     have c2' : Chg (fun y => (Value.slice A' q.length c').ownBlock = some y) Z w2' := (Chg.alloc _ Z _).trans (Chg.of_grown hgrow2) (fun x _ hx => hx.symm)
     have B2' := hid (BZ.out.trans (c2'.below hlz (fun x hx e => by have := (World.ownsRow.lt OZ.out x e).1; omega)))
     have O2 := hid hown2
     clear hown2 hgrow2 hat2 c2'
     go_wp2_with fail
     go_roundw
     case rel =>
      refine ⟨j + 1, some ⟨g2, 0, none⟩, cap2, by omega, by go_num, ?_, ?_, B2'.out⟩
      ·rw [HX.out, List.length_append, List.length_singleton]
      ·rw [HX.out]
       unfold OwnI
       rw [List.length_append, List.length_singleton, cellsI_append]
       exact O2.out
     case measure => simp [intOf]; omega
   ·have HX := hid (HNO.out j _ HS.out hk)
    have k7 : (s0 == 7) = false := by simp; omega
    clear hk
    generalize recs xs j = x at *
    go_wp2_with fail
    go_roundw
    case rel => exact ⟨j + 1, A', c', by omega, by go_num, by rw [HX.out], by rw [HX.out]; exact OZ.out, BZ.out⟩
    case measure => simp [intOf]; omega
  ·obtain rfl : j = m := by omega
   go_wp2_with fail
   go_ret
   exact ⟨A', c', by rw [HRES.out, HM.out] <;> rfl, by rw [HRES.out, HM.out]; exact O.out, HB.out⟩
end Go.Proofs.Ytdmcgkcpclepfaa.Gua
-- squeezed
