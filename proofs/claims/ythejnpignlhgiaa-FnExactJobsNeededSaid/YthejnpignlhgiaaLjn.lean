import Derived.Test.YthejnpignlhgiaaRows
import Derived.Test.YthejnpignlhgiaaM2
import Derived.Test.YthejnpignlhgiaaM3
import Derived.Test.YthejnpignlhgiaaSem
import Derived.Test.YthejnpignlhgiaaSew
set_option linter.all false
namespace Go.Proofs.Ythejnpignlhgiaa.Sel
open Last2 (tk)
open Lib (hid)
open Go.ChangeShapes Go.WideShapes Go.ChangeAt Go.RowKit
open PL Mem To Srun Sst IntsP RowA OwnS AskP Res Swhole Sout StS Frp Sep Sit SemP Sei Seg Sez Sey Siw Sew LawN LawI
theorem cut_front (A : Option Addr) (q k : Nat) : Value.slice (if k = 0 then A else A.map fun x => x.add 0) q k = .slice A q k := by
 cases A with
 | none => split <;> rfl
 | some a => split <;> rfl
theorem set3 {W : World} {g t : Nat} {a0 a1 a2 : Value} (h : Blk W g t #[a0, a1, a2]) (u0 u1 u2 : Value) : Blk (((W.setCell ⟨g, 0, none⟩ u0).setCell ⟨g, 1, none⟩ u1).setCell ⟨g, 2, none⟩ u2) g t #[u0, u1, u2] := by
 have := ((h.put 0 u0).put 1 u1).put 2 u2
 simpa only [Last2.s] using this
theorem bel3 {w W : World} {B g : Nat} (h : Below B w W) (hg : B ≤ g) (u0 u1 u2 : Value) : Below B w (((W.setCell ⟨g, 0, none⟩ u0).setCell ⟨g, 1, none⟩ u1).setCell ⟨g, 2, none⟩ u2) := by
 iterate 3 refine Below.setCell ?_ hg _
 exact h
theorem takeR {w : World} {B : Nat} {Aj Ah : Option Addr} {js : List Pr} {hs : List Int} (h : RdSe w B Aj Ah js hs) (q : Nat) : RdSe w B Aj Ah (js.take q) hs := by
 refine ⟨fun j s hj => h.jobs j s ?_, h.hooks⟩
 rw [List.getElem?_take] at hj
 split at hj
 ·exact hj
 ·cases hj
theorem go_yes {p : Pg} {fuel mode code : Int} {js : List Pr} {hs : List Int} {l q : Nat} (h : code ≤ (sesS p fuel mode (js.take q) hs).code) : jobsGo p fuel mode code js hs (l + 1) q = ((q : Int), true) := by
 show (if _ then _ else _) = _
 rw [if_pos h]
theorem go_no {p : Pg} {fuel mode code : Int} {js : List Pr} {hs : List Int} {l q : Nat} (h : ¬ code ≤ (sesS p fuel mode (js.take q) hs).code) : jobsGo p fuel mode code js hs (l + 1) q = jobsGo p fuel mode code js hs l (q + 1) := by
 show (if _ then _ else _) = _
 rw [if_neg h]
set_option maxRecDepth 100000 in
set_option maxHeartbeats 4000000 in
theorem neededS_any (lo n c nj nh cj ch : Nat) (A Aj Ah : Option Addr) (p : Pg) (js : List Pr) (hs : List Int) (mode fuel code : Int) (hcj : nj ≤ cj) (hn : n ≤ 9223372036854775807) (hl : p.length = n) (hsm : Small p 9223372036854775807) (hj : nj ≤ 9223372036854775807) (lj : js.length = nj) (hh : nh ≤ 9223372036854775807) (lh : hs.length = nh) (w : World) (ho : OwnP w lo (.slice A n c) p) (hrs : RdSe w w.heap.size Aj Ah js hs) :
  Calls Try.prog 47 #[.agg #[.slice A n c], .agg #[.slice Aj nj cj, .slice Ah nh ch, .int .i64 mode], .int .i64 fuel, .int .i64 code] w (NumR (neededR p js hs mode fuel code) w) := by
 have hq := hid (fun W (h : Below w.heap.size w W) => l10Ask_any lo n c nj nh cj ch A Aj Ah p js hs mode fuel hn hl hsm hj lj hh lh W (ho.below h) ((hrs.below h).more h.size))
 have h2 := hid (App.Bl.alloc (App.Bl.alloc (App.Bl.refl w) (.cells #[.slice A n c] 35)) (.cells #[.slice Aj nj cj, .slice Ah nh ch, .int .i64 mode] 39))
 cases hk : askSes p js hs mode fuel with
 | false =>
  have HR := hid (show neededR p js hs mode fuel code = (0, false) by unfold neededR; rw [hk]; rfl)
  rw [hk] at hq
  clear hk ho hrs hsm
  go_enter Try.func47, Try.ntmps47
  go_upto_region 1 with fail
  change (fun V => Code.wp _ _ _ _ V) _
  refine gen_world (X := fun V => Blk V w.heap.size 35 #[.slice A n c] ∧ Blk V (w.heap.size + 1) 39 #[.slice Aj nj cj, .slice Ah nh ch, .int .i64 mode] ∧ Below w.heap.size w V) ⟨heap2_0 w _ _, heap2_1 w _ _, h2.out⟩ ?_
  rintro w1 ⟨x1, x2, b1⟩
  have z1 : w1.cell? ⟨w.heap.size, 0, none⟩ = some (.slice A n c) := x1.cells 0
  have z2 : w1.cell? ⟨w.heap.size + 1, 0, none⟩ = some (.slice Aj nj cj) := x2.cells 0
  have z3 : w1.cell? ⟨w.heap.size + 1, 1, none⟩ = some (.slice Ah nh ch) := x2.cells 1
  have z4 : w1.cell? ⟨w.heap.size + 1, 2, none⟩ = some (.int .i64 mode) := x2.cells 2
  have l1 := x2.lt
  have X1 := hid x1
  have X2 := hid x2
  have B1 := hid b1
  clear x1 x2 b1
  go_wp2_with fail
  refine (hq.out _ B1.out).mono ?_
  rintro e w2 ⟨rfl, b2⟩
  have HB2 := hid (B1.out.trans (b2.mono B1.out.size))
  clear b2
  go_wp2_with fail
  go_ret2
  exact ⟨by rw [HR.out] <;> rfl, HB2.out⟩
 | true =>
  have hn6 := okProg_small (ses_parts hk).1
  have hj12 : nj ≤ 12 := by have := (ses_parts hk).2.1; omega
  have hru := hid (fun (q : Nat) (hq : q ≤ nj) W (h : Below w.heap.size w W) => l10Run_any lo n c q nh cj ch A Aj Ah p (js.take q) hs mode fuel hl (hn6.2.mono (by omega)) (by omega) (by rw [List.length_take]; omega) lh (take_ok hk q) W (ho.below h) (takeR ((hrs.below h).more h.size) q))
  have HR := hid (show neededR p js hs mode fuel code = jobsGo p fuel mode code js hs (nj + 1) 0 by unfold neededR; rw [if_pos hk, lj])
  rw [hk] at hq
  clear hk ho hrs hsm hn6 lj lh hl
  go_enter Try.func47, Try.ntmps47
  go_upto_region 1 with fail
  change (fun V => Code.wp _ _ _ _ V) _
  refine gen_world (X := fun V => Blk V w.heap.size 35 #[.slice A n c] ∧ Blk V (w.heap.size + 1) 39 #[.slice Aj nj cj, .slice Ah nh ch, .int .i64 mode] ∧ Below w.heap.size w V) ⟨heap2_0 w _ _, heap2_1 w _ _, h2.out⟩ ?_
  rintro w1 ⟨x1, x2, b1⟩
  have z1 : w1.cell? ⟨w.heap.size, 0, none⟩ = some (.slice A n c) := x1.cells 0
  have z2 : w1.cell? ⟨w.heap.size + 1, 0, none⟩ = some (.slice Aj nj cj) := x2.cells 0
  have z3 : w1.cell? ⟨w.heap.size + 1, 1, none⟩ = some (.slice Ah nh ch) := x2.cells 1
  have z4 : w1.cell? ⟨w.heap.size + 1, 2, none⟩ = some (.int .i64 mode) := x2.cells 2
  have l1 := x2.lt
  have X1 := hid x1
  have X2 := hid x2
  have B1 := hid b1
  clear x1 x2 b1
  go_wp2_with fail
  refine (hq.out _ B1.out).mono ?_
  rintro e w2 ⟨rfl, b2⟩
  have HB2 := hid (B1.out.trans (b2.mono B1.out.size))
  have hX := hid (fun (V : World) (b : Below w2.heap.size w2 V) => (show V.cell? ⟨w.heap.size, 0, none⟩ = some (.slice A n c) ∧ V.cell? ⟨w.heap.size + 1, 0, none⟩ = some (.slice Aj nj cj) ∧ V.cell? ⟨w.heap.size + 1, 1, none⟩ = some (.slice Ah nh ch) ∧ V.cell? ⟨w.heap.size + 1, 2, none⟩ = some (.int .i64 mode) from
   let c1 := X1.out.below b2 X1.out.lt
   let c2 := X2.out.below b2 X2.out.lt
   ⟨(c1.below b c1.lt).cells 0, (c2.below b c2.lt).cells 0, (c2.below b c2.lt).cells 1, (c2.below b c2.lt).cells 2⟩))
  clear z1 z2 z3 z4
  clear b2 X1 X2
  go_wp2_with fail
  go_loopw [10] (fun i wr => ∃ q : Nat, q ≤ nj + 1 ∧ i = .int .i64 q ∧ Hid (jobsGo p fuel mode code js hs (nj + 1) 0 = jobsGo p fuel mode code js hs (nj + 1 - q) q) ∧ Below w2.heap.size w2 wr) (fun i _ => nj + 1 - (intOf i).toNat)
  case atStart => exact ⟨0, by omega, rfl, hid rfl, Below.refl _ _⟩
  case round =>
   obtain ⟨q, hq, rfl, HG, hb⟩ := hrel
   have HB := hid hb
   obtain ⟨y1, y2, y3, y4⟩ := hX.out _ hb
   clear hb
   by_cases hlt : q ≤ nj
   ·obtain ⟨l, hl'⟩ : ∃ l, nj + 1 - q = l + 1 := ⟨nj - q, by omega⟩
    have hgo := HG.out
    rw [hl'] at hgo
    have HL := hid (show nj + 1 - (q + 1) = l by omega)
    have hY := fun h => hgo.trans (go_yes (p := p) (fuel := fuel) (mode := mode) (code := code) (js := js) (hs := hs) (l := l) (q := q) h)
    have hN := fun h => hgo.trans (go_no (p := p) (fuel := fuel) (mode := mode) (code := code) (js := js) (hs := hs) (l := l) (q := q) h)
    have HY := hid hY
    have HN := hid hN
    have hqc : q ≤ cj := by omega
    have HQ := hid hq
    clear hgo hl' hY hN HG hq
    have HRU := hid (hru.out q hlt)
    generalize hsg : sesS p fuel mode (js.take q) hs = s at HRU
    have HS := hid hsg
    clear hsg
    unfold Sey.RunR at HRU
    go_wp2_with fail
    have S0 : (fun V : World => V.cell? ⟨w.heap.size, 0, none⟩ = some (.slice A n c) ∧ V.cell? ⟨w.heap.size + 1, 0, none⟩ = some (.slice Aj nj cj) ∧ V.cell? ⟨w.heap.size + 1, 1, none⟩ = some (.slice Ah nh ch) ∧ V.cell? ⟨w.heap.size + 1, 2, none⟩ = some (.int .i64 mode)) wr.drew := ⟨(hX.out _ HB.out.drew).1, (hX.out _ HB.out.drew).2.1, (hX.out _ HB.out.drew).2.2.1, (hX.out _ HB.out.drew).2.2.2⟩
    refine Last2.region_last [] (fun V : World => V.cell? ⟨w.heap.size, 0, none⟩ = some (.slice A n c) ∧ V.cell? ⟨w.heap.size + 1, 0, none⟩ = some (.slice Aj nj cj) ∧ V.cell? ⟨w.heap.size + 1, 1, none⟩ = some (.slice Ah nh ch) ∧ V.cell? ⟨w.heap.size + 1, 2, none⟩ = some (.int .i64 mode)) (by kernel_rfl) ?_
    have hbd : Below w2.heap.size w2 wr.drew := HB.out.drew
    generalize wr.drew = W0 at *
    refine tk 0 23 (.agg #[.slice A n c]) S0 ?_
    simp only [Act.put, Last2.s]
    refine tk 1 24 (.pointer (some ⟨w.heap.size + 1, 0, none⟩)) S0 ?_
    simp only [Act.put, Last2.s]
    refine tk 2 25 (.slice Aj nj cj) S0 ?_
    simp only [Act.put, Last2.s]
    refine tk 3 26 (.int .i64 q) S0 ?_
    simp only [Act.put, Last2.s]
    refine Last2.last_take (i := 4) (d := some 27) (v := .slice Aj q cj) rfl rfl (by kernel_rfl) (by kernel_rfl) (by kernel_rfl) (fun _ _ _ h => h) rfl (by kernel_rfl) (by kernel_rfl) rfl ?_ S0 ?_
    ·(intro V hV; (try dsimp only at hV); go_simp; try simp only [cut_front])
    simp only [Act.put, Last2.s]
    refine tk 5 28 (.pointer (some ⟨w.heap.size + 1, 1, none⟩)) S0 ?_
    simp only [Act.put, Last2.s]
    refine tk 6 29 (.slice Ah nh ch) S0 ?_
    simp only [Act.put, Last2.s]
    refine tk 7 30 (.pointer (some ⟨w.heap.size + 1, 2, none⟩)) S0 ?_
    simp only [Act.put, Last2.s]
    refine tk 8 31 (.int .i64 mode) S0 ?_
    simp only [Act.put, Last2.s]
    refine tk 9 32 (.agg #[.slice Aj q cj, .slice Ah nh ch, .int .i64 mode]) S0 ?_
    simp only [Act.put, Last2.s]
    refine tk 10 33 (.int .i64 fuel) S0 ?_
    simp only [Act.put, Last2.s]
    refine tk 13 36 (.int .i64 code) S0 ?_
    simp only [Act.put, Last2.s]
    refine Last2.last_one (i := 11) (o := { dst := some 34, op := .call { callee := .value (.func 87), args := #[.tmp 23, .tmp 32, .tmp 33], argTypes := #[35, 39, 3] }, type := _, pos := _, after := _, guard := _ }) (by kernel_rfl) rfl rfl (fun K hK => ?_)
    go_simp
    refine (HRU.out W0 (HB2.out.trans (hbd.mono HB2.out.size))).mono ?_
    rintro e wc ⟨v1, v2, v3, rfl, oj, oh, oy, bc⟩
    have tc : Below w2.heap.size w2 wc := hbd.trans (bc.mono hbd.size)
    have hff := fun u => seen_field3 v1 v2 v3 (.int .i64 s.code) (.int .i64 s.shared) u
    refine hK.out _ _ (fun _ => hX.out wc tc) ?_
    clear hK K oj oh oy bc
    try simp only [Act.put, Last2.s]
    have S3 := hX.out wc tc
    refine Last2.last_take (i := 12) (d := some 35) (v := .int .i64 s.code) rfl rfl (by kernel_rfl) (by kernel_rfl) (by kernel_rfl) (fun _ _ _ h => h) rfl (by kernel_rfl) (by kernel_rfl) rfl ?_ S3 ?_
    ·(intro V hV; (try dsimp only at hV); go_simp; try with_reducible rfl)
    simp only [Act.put, Last2.s]
    refine Last2.last_take (i := 14) (d := some 37) (v := .bool (decide (code ≤ s.code))) rfl rfl (by kernel_rfl) (by kernel_rfl) (by kernel_rfl) (fun _ _ _ h => h) rfl (by kernel_rfl) (by kernel_rfl) rfl ?_ S3 ?_
    ·(intro V hV; (try dsimp only at hV); go_simp; try with_reducible rfl)
    simp only [Act.put, Last2.s]
    refine Last2.last_done (by kernel_rfl) ?_ _
    have HTC := hid tc
    have TC := hid (HB2.out.trans (tc.mono HB2.out.size))
    clear S0 S3 tc hbd hff y1 y2 y3 y4
    cases hb : (decide (code ≤ s.code)) with
    | true =>
     have HX := hid (HY.out (by rw [HS.out]; exact of_decide_eq_true hb))
     go_wp2_with fail
     go_ret2
     exact ⟨by rw [HR.out, HX.out] <;> rfl, TC.out⟩
    | false =>
     have HX := hid (HN.out (by rw [HS.out]; have := of_decide_eq_false hb; omega))
     go_wp2_with fail
     go_roundw
     case rel => exact ⟨q + 1, by omega, by go_num, hid (by rw [HX.out, HL.out]), HTC.out⟩
     case measure => simp [intOf]; omega
   ·obtain rfl : q = nj + 1 := by omega
    have HX := hid (HG.out.trans (show jobsGo p fuel mode code js hs (nj + 1 - (nj + 1)) (nj + 1) = (0, false) by rw [Nat.sub_self]; rfl))
    clear HG hq
    have hlt2 : decide (nj + 1 ≤ nj) = false := by simp
    go_wp2_with fail
    go_ret2
    exact ⟨by rw [HR.out, HX.out] <;> rfl, HB2.out.trans (HB.out.mono HB2.out.size)⟩
set_option maxRecDepth 100000 in
set_option maxHeartbeats 4000000 in
theorem neededI_any (lo n c nj nh cj ch : Nat) (A Aj Ah : Option Addr) (p : Pg) (js : List Pr) (hs : List Int) (mode fuel code : Int) (hcj : nj ≤ cj) (hn : n ≤ 9223372036854775807) (hl : p.length = n) (hsm : Small p 9223372036854775807) (hj : nj ≤ 9223372036854775807) (lj : js.length = nj) (hh : nh ≤ 9223372036854775807) (lh : hs.length = nh) (w : World) (ho : OwnP w lo (.slice A n c) p) (hrs : RdSe w w.heap.size Aj Ah js hs) :
  Calls Try.prog 48 #[.agg #[.slice A n c], .agg #[.slice Aj nj cj, .slice Ah nh ch, .int .i64 mode], .int .i64 fuel, .int .i64 code] w (NumR (neededR p js hs mode fuel code) w) := by
 have hso := hid (fun W (h : Below w.heap.size w W) => sitOf_any lo n c nj nh cj ch A Aj Ah p js hs mode fuel hn hl hsm hj lj hh lh W (ho.below h) ((hrs.below h).more h.size))
 have h2 := hid (App.Bl.alloc (App.Bl.alloc (App.Bl.refl w) (.cells #[.slice A n c] 35)) (.cells #[.slice Aj nj cj, .slice Ah nh ch, .int .i64 mode] 39))
 cases hk : askSes p js hs mode fuel with
 | false =>
  have HR := hid (show neededR p js hs mode fuel code = (0, false) by unfold neededR; rw [hk]; rfl)
  have hs0 : sitR p js hs mode fuel = (sen0, false) := by unfold sitR; rw [hk]; rfl
  rw [hs0] at hso
  unfold SitO at hso
  dsimp only at hso
  clear hk ho hrs hsm hs0
  go_enter Try.func48, Try.ntmps48
  go_upto_region 1 with fail
  change (fun V => Code.wp _ _ _ _ V) _
  refine gen_world (X := fun V => Blk V w.heap.size 35 #[.slice A n c] ∧ Blk V (w.heap.size + 1) 39 #[.slice Aj nj cj, .slice Ah nh ch, .int .i64 mode] ∧ Below w.heap.size w V) ⟨heap2_0 w _ _, heap2_1 w _ _, h2.out⟩ ?_
  rintro w1 ⟨x1, x2, b1⟩
  have z1 : w1.cell? ⟨w.heap.size, 0, none⟩ = some (.slice A n c) := x1.cells 0
  have z2 : w1.cell? ⟨w.heap.size + 1, 0, none⟩ = some (.slice Aj nj cj) := x2.cells 0
  have z3 : w1.cell? ⟨w.heap.size + 1, 1, none⟩ = some (.slice Ah nh ch) := x2.cells 1
  have z4 : w1.cell? ⟨w.heap.size + 1, 2, none⟩ = some (.int .i64 mode) := x2.cells 2
  have l1 := x2.lt
  have X1 := hid x1
  have X2 := hid x2
  have B1 := hid b1
  clear x1 x2 b1
  go_wp2_with fail
  refine (hso.out _ B1.out).mono ?_
  rintro e w2 ⟨g, v0, v1, v2, v3, fu, mo, rfl, hs2⟩
  have HB2 := hid (B1.out.trans (hs2.bel.mono B1.out.size))
  clear hs2 z1 z2 z3 z4
  go_wp2_with fail
  go_ret2
  exact ⟨by rw [HR.out] <;> rfl, HB2.out⟩
 | true =>
  have hj12 : nj ≤ 12 := by have := (ses_parts hk).2.1; omega
  have hs0 : sitR p js hs mode fuel = (sesS p fuel mode js hs, true) := by unfold sitR; rw [hk]; rfl
  have hs1 := fun q => (show sitR p (js.take q) hs mode fuel = (sesS p fuel mode (js.take q) hs, true) by unfold sitR; rw [take_ok hk q]; rfl)
  have hru := hid (fun (q : Nat) (hq : q ≤ nj) W (h : Below w.heap.size w W) => (hs1 q) ▸ sitOf_any lo n c q nh cj ch A Aj Ah p (js.take q) hs mode fuel hn hl hsm (by omega) (by rw [List.length_take]; omega) hh lh W (ho.below h) (takeR ((hrs.below h).more h.size) q))
  have HR := hid (show neededR p js hs mode fuel code = jobsGo p fuel mode code js hs (nj + 1) 0 by unfold neededR; rw [if_pos hk, lj])
  rw [hs0] at hso
  unfold SitO at hso
  dsimp only at hso
  generalize sesS p fuel mode js hs = s9 at hso
  clear hk ho hrs hsm hs0 hs1 lj lh hl
  go_enter Try.func48, Try.ntmps48
  go_upto_region 1 with fail
  change (fun V => Code.wp _ _ _ _ V) _
  refine gen_world (X := fun V => Blk V w.heap.size 35 #[.slice A n c] ∧ Blk V (w.heap.size + 1) 39 #[.slice Aj nj cj, .slice Ah nh ch, .int .i64 mode] ∧ Below w.heap.size w V) ⟨heap2_0 w _ _, heap2_1 w _ _, h2.out⟩ ?_
  rintro w1 ⟨x1, x2, b1⟩
  have z1 : w1.cell? ⟨w.heap.size, 0, none⟩ = some (.slice A n c) := x1.cells 0
  have z2 : w1.cell? ⟨w.heap.size + 1, 0, none⟩ = some (.slice Aj nj cj) := x2.cells 0
  have z3 : w1.cell? ⟨w.heap.size + 1, 1, none⟩ = some (.slice Ah nh ch) := x2.cells 1
  have z4 : w1.cell? ⟨w.heap.size + 1, 2, none⟩ = some (.int .i64 mode) := x2.cells 2
  have l1 := x2.lt
  have X1 := hid x1
  have X2 := hid x2
  have B1 := hid b1
  clear x1 x2 b1
  go_wp2_with fail
  refine (hso.out _ B1.out).mono ?_
  rintro e w2 ⟨g, v0, v1, v2, v3, fu, mo, rfl, hs2⟩
  have b2 := hs2.bel
  have HB2 := hid (B1.out.trans (b2.mono B1.out.size))
  have hX := hid (fun (V : World) (b : Below w2.heap.size w2 V) => (show V.cell? ⟨w.heap.size, 0, none⟩ = some (.slice A n c) ∧ V.cell? ⟨w.heap.size + 1, 0, none⟩ = some (.slice Aj nj cj) ∧ V.cell? ⟨w.heap.size + 1, 1, none⟩ = some (.slice Ah nh ch) ∧ V.cell? ⟨w.heap.size + 1, 2, none⟩ = some (.int .i64 mode) from
   let c1 := X1.out.below b2 X1.out.lt
   let c2 := X2.out.below b2 X2.out.lt
   ⟨(c1.below b c1.lt).cells 0, (c2.below b c2.lt).cells 0, (c2.below b c2.lt).cells 1, (c2.below b c2.lt).cells 2⟩))
  clear z1 z2 z3 z4
  obtain ⟨y1, y2, y3, y4⟩ := hX.out _ (Below.refl _ _)
  clear b2 X1 X2 hs2 hso
  go_wp2_with fail
  go_loopw [29] (fun i wr => ∃ q : Nat, q ≤ nj + 1 ∧ i = .int .i64 q ∧ Hid (jobsGo p fuel mode code js hs (nj + 1) 0 = jobsGo p fuel mode code js hs (nj + 1 - q) q) ∧ Below w2.heap.size w2 wr) (fun i _ => nj + 1 - (intOf i).toNat)
  case atStart => exact ⟨0, by omega, rfl, hid rfl, Below.refl _ _⟩
  case round =>
   obtain ⟨q, hq, rfl, HG, hb⟩ := hrel
   have HB := hid hb
   obtain ⟨y1, y2, y3, y4⟩ := hX.out _ hb
   clear hb
   by_cases hlt : q ≤ nj
   ·obtain ⟨l, hl'⟩ : ∃ l, nj + 1 - q = l + 1 := ⟨nj - q, by omega⟩
    have hgo := HG.out
    rw [hl'] at hgo
    have HL := hid (show nj + 1 - (q + 1) = l by omega)
    have hY := fun h => hgo.trans (go_yes (p := p) (fuel := fuel) (mode := mode) (code := code) (js := js) (hs := hs) (l := l) (q := q) h)
    have hN := fun h => hgo.trans (go_no (p := p) (fuel := fuel) (mode := mode) (code := code) (js := js) (hs := hs) (l := l) (q := q) h)
    have HY := hid hY
    have HN := hid hN
    have hqc : q ≤ cj := by omega
    have HQ := hid hq
    clear hgo hl' hY hN HG hq
    have HRU := hid (hru.out q hlt)
    generalize hsg : sesS p fuel mode (js.take q) hs = s at HRU
    have HS := hid hsg
    clear hsg
    unfold SitO at HRU
    dsimp only at HRU
    go_wp2_with fail
    have hbd : Below w2.heap.size w2 wr.drew := HB.out.drew
    have S0 : (fun V : World => V.cell? ⟨w.heap.size, 0, none⟩ = some (.slice A n c) ∧ V.cell? ⟨w.heap.size + 1, 0, none⟩ = some (.slice Aj nj cj) ∧ V.cell? ⟨w.heap.size + 1, 1, none⟩ = some (.slice Ah nh ch) ∧ V.cell? ⟨w.heap.size + 1, 2, none⟩ = some (.int .i64 mode)) wr.drew := hX.out _ hbd
    refine Last2.region_last [10] (fun V : World => V.cell? ⟨w.heap.size, 0, none⟩ = some (.slice A n c) ∧ V.cell? ⟨w.heap.size + 1, 0, none⟩ = some (.slice Aj nj cj) ∧ V.cell? ⟨w.heap.size + 1, 1, none⟩ = some (.slice Ah nh ch) ∧ V.cell? ⟨w.heap.size + 1, 2, none⟩ = some (.int .i64 mode)) (by kernel_rfl) ?_
    generalize wr.drew = W0 at *
    refine tk 0 32 (.pointer (some ⟨w.heap.size + 1, 0, none⟩)) S0 ?_
    simp only [Act.put, Last2.s]
    refine tk 1 33 (.slice Aj nj cj) S0 ?_
    simp only [Act.put, Last2.s]
    refine tk 2 34 (.int .i64 q) S0 ?_
    simp only [Act.put, Last2.s]
    refine Last2.last_take (i := 3) (d := some 35) (v := .slice Aj q cj) rfl rfl (by kernel_rfl) (by kernel_rfl) (by kernel_rfl) (fun _ _ _ h => h) rfl (by kernel_rfl) (by kernel_rfl) rfl ?_ S0 ?_
    ·(intro V hV; (try dsimp only at hV); go_simp; try simp only [cut_front])
    simp only [Act.put, Last2.s]
    refine tk 4 36 (.pointer (some ⟨w.heap.size + 1, 1, none⟩)) S0 ?_
    simp only [Act.put, Last2.s]
    refine tk 5 37 (.slice Ah nh ch) S0 ?_
    simp only [Act.put, Last2.s]
    refine tk 6 38 (.pointer (some ⟨w.heap.size + 1, 2, none⟩)) S0 ?_
    simp only [Act.put, Last2.s]
    refine tk 7 39 (.int .i64 mode) S0 ?_
    simp only [Act.put, Last2.s]
    refine tk 8 40 (.agg #[.slice Aj q cj, .slice Ah nh ch, .int .i64 mode]) S0 ?_
    simp only [Act.put, Last2.s]
    refine Last2.last_one (i := 9) (o := { dst := some 13, op := .alloc 39, type := _, pos := _, after := _, guard := none }) (by kernel_rfl) rfl rfl (fun K hK => ?_)
    go_simp
    have x9 : Blk (W0.alloc (.cells #[.slice none 0 0, .slice none 0 0, .int .i64 0] 39)) W0.heap.size 39 #[.slice none 0 0, .slice none 0 0, .int .i64 0] := heap1_0 W0 _
    have b9 : Below w2.heap.size w2 (W0.alloc (.cells #[.slice none 0 0, .slice none 0 0, .int .i64 0] 39)) := hbd.alloc hbd.size _
    have lg9 : w2.heap.size ≤ W0.heap.size := hbd.size
    have S1 := hX.out _ b9
    refine hK.out _ _ (fun _ => S1) ?_
    clear hK K
    try simp only [Act.put, Last2.s]
    generalize W0.alloc (.cells #[.slice none 0 0, .slice none 0 0, .int .i64 0] 39) = W1 at *
    generalize W0.heap.size = g9 at *
    have z9 := x9.cells
    have f9 := x9.frozen
    refine Last2.last_one (i := 10) (o := { dst := none, op := .store 39 (.tmp 13) (.tmp 40), type := _, pos := _, after := _, guard := none }) (by kernel_rfl) rfl rfl (fun K hK => ?_)
    go_simp
    have y9 := set3 x9 (.slice Aj q cj) (.slice Ah nh ch) (.int .i64 mode)
    have yb := bel3 b9 lg9 (.slice Aj q cj) (.slice Ah nh ch) (.int .i64 mode)
    refine hK.out _ _ (fun h => (h (by decide)).elim) ?_
    clear hK K S0 S1 z9 f9 x9 b9 y1 y2 y3 y4 hbd
    try simp only [Act.put, Last2.s]
    refine Last2.last_done (by kernel_rfl) ?_ _
    generalize (((W1.setCell ⟨g9, 0, none⟩ (.slice Aj q cj)).setCell ⟨g9, 1, none⟩ (.slice Ah nh ch)).setCell ⟨g9, 2, none⟩ (.int .i64 mode)) = W2 at *
    obtain ⟨y1, -, -, -⟩ := hX.out _ yb
    have u0 : W2.cell? ⟨g9, 0, none⟩ = some (.slice Aj q cj) := y9.cells 0
    have u1 : W2.cell? ⟨g9, 1, none⟩ = some (.slice Ah nh ch) := y9.cells 1
    have u2 : W2.cell? ⟨g9, 2, none⟩ = some (.int .i64 mode) := y9.cells 2
    have HYB := hid yb
    clear yb y9
    go_wp2_with fail
    refine (HRU.out _ (HB2.out.trans (HYB.out.mono HB2.out.size))).mono ?_
    rintro e w5 ⟨g5, p0, p1, p2, p3, fu5, mo5, rfl, hs5⟩
    have tc : Below w2.heap.size w2 w5 := HYB.out.trans (hs5.bel.mono HYB.out.size)
    have zz : w5.cell? ⟨g5, 4, none⟩ = some (.int .i64 s.code) := hs5.blk.cells 4
    have HTC := hid tc
    have TC := hid (HB2.out.trans (tc.mono HB2.out.size))
    clear tc hs5 u0 u1 u2 y1
    cases hb : (decide (code ≤ s.code)) with
    | true =>
     have HX := hid (HY.out (by rw [HS.out]; exact of_decide_eq_true hb))
     go_wp2_with fail
     go_ret2
     exact ⟨by rw [HR.out, HX.out] <;> rfl, TC.out⟩
    | false =>
     have HX := hid (HN.out (by rw [HS.out]; have := of_decide_eq_false hb; omega))
     go_wp2_with fail
     go_roundw
     case rel => exact ⟨q + 1, by omega, by go_num, hid (by rw [HX.out, HL.out]), HTC.out⟩
     case measure => simp [intOf]; omega
   ·obtain rfl : q = nj + 1 := by omega
    have HX := hid (HG.out.trans (show jobsGo p fuel mode code js hs (nj + 1 - (nj + 1)) (nj + 1) = (0, false) by rw [Nat.sub_self]; rfl))
    clear HG hq
    have hlt2 : decide (nj + 1 ≤ nj) = false := by simp
    go_wp2_with fail
    go_ret2
    exact ⟨by rw [HR.out, HX.out] <;> rfl, HB2.out.trans (HB.out.mono HB2.out.size)⟩
end Go.Proofs.Ythejnpignlhgiaa.Sel
namespace Go.Proofs.Ythejnpignlhgiaa.fnExactJobsNeeded
open Last2 (tk)
open Lib (hid)
open Go.ChangeShapes Go.WideShapes Go.ChangeAt Go.RowKit
open PL Mem To Sst Sz EqP OpenP MarkP LawN IntsP RowA SemP Sel
theorem own : ownKnob Try.prog.godebug = none := by kernel_rfl
theorem szP_more {p : Pg} {l : Int} (h : ¬ szP l p < 0) (hl : l ≤ 1048576) : ¬ szP 1048576 p < 0 := by
 unfold szP szR at *
 split at h <;> split <;> omega
set_option maxHeartbeats 8000000 in
set_option maxRecDepth 100000 in
theorem walk (A : Option Addr) (c : Nat) (p : Pg) (Aj : Option Addr) (cj : Nat) (js : List Pr) (Ah : Option Addr) (ch : Nat) (hs : List Int) (mode : Int) (fuel code : Int) (hn : p.length ≤ maxLen) (hsm : Small p maxLen) (hnj : js.length ≤ maxLen) (hnh : hs.length ≤ maxLen) (w : World) (hr : RdP w w.heap.size A p) (hrs : RdSe w w.heap.size Aj Ah js hs) :
  Calls Try.prog 12 #[.agg #[.slice A p.length c], .agg #[.slice Aj js.length cj, .slice Ah hs.length ch, .int .i64 mode], .int .i64 fuel, .int .i64 code] w fun e w' => e = .returned (.bool true) ∧ Below w.heap.size w w' := by
 unfold maxLen at hn hsm hnj hnh
 have hR := hid hr
 have hRs := hid hrs
 clear hr hrs
 obtain ⟨n, hL⟩ : ∃ n, p.length = n := ⟨_, rfl⟩
 obtain ⟨nj, hLj⟩ : ∃ n, js.length = n := ⟨_, rfl⟩
 obtain ⟨nh, hLh⟩ : ∃ n, hs.length = n := ⟨_, rfl⟩
 have hz := hid (fun W h hB => szProgram_any w.heap.size A n c p 1048576 (by omega) (by omega) (by omega) hL hsm W h hB)
 have h2 := hid (App.Bl.alloc (App.Bl.alloc (App.Bl.refl w) (.cells #[.slice A n c] 24)) (.cells #[.slice Aj nj cj, .slice Ah nh ch, .int .i64 mode] 28))
 by_cases hneg : szP 1048576 p < 0
 ·have hs := hid (szR_neg _ _ hneg).1
  rw [hL, hLj, hLh]
  clear hL hLj hLh hneg
  go_enter Try.func12, Try.ntmps12
  go_wp2_with fail
  refine (hz.out _ (hR.out.below h2.out) h2.out.size).mono ?_
  rintro e w1 ⟨rfl, b1⟩
  rw [szP, hs.out]
  go_wp2_with fail
  go_ret
  exact ⟨rfl, h2.out.trans (b1.mono h2.out.size)⟩
 obtain ⟨hs1, hs2⟩ := szP_small hneg
 have hlo : 0 ≤ szP 1048576 p := by omega
 have hhi : szP 1048576 p ≤ 1048576 := by unfold szP at *; rw [szR_pos _ _ hlo]; omega
 have hz' := hid (fun W => szSession_any Aj Ah nj nh cj ch mode (szP 1048576 p) hlo (by omega) (by omega) (by omega) W)
 by_cases hneg' : szSe (szP 1048576 p) nj nh < 0
 ·have hs := hid (szSe_neg hneg')
  rw [hL, hLj, hLh]
  generalize hsz : szP 1048576 p = l1 at *
  clear hL hLj hLh hneg' hneg hs1 hs2 hsm hsz
  go_enter Try.func12, Try.ntmps12
  go_upto_region 1 with fail
  change (fun V => Code.wp _ _ _ _ V) _
  refine gen_world (X := fun V => Blk V w.heap.size 24 #[.slice A n c] ∧ Blk V (w.heap.size + 1) 28 #[.slice Aj nj cj, .slice Ah nh ch, .int .i64 mode] ∧ Below w.heap.size w V) ⟨heap2_0 w _ _, heap2_1 w _ _, h2.out⟩ ?_
  rintro w1 ⟨x1, x2, b1⟩
  have z1 : w1.cell? ⟨w.heap.size, 0, none⟩ = some (.slice A n c) := x1.cells 0
  have X2 := hid x2
  have B1 := hid b1
  clear x1 x2 b1
  go_wp2_with fail
  refine (hz.out _ (hR.out.below B1.out) B1.out.size).mono ?_
  rintro e w2 ⟨rfl, b2⟩
  have B2 := hid (B1.out.trans (b2.mono B1.out.size))
  have X22 := X2.out.below b2 X2.out.lt
  have z2 : w2.cell? ⟨w.heap.size + 1, 0, none⟩ = some (.slice Aj nj cj) := X22.cells 0
  have z3 : w2.cell? ⟨w.heap.size + 1, 1, none⟩ = some (.slice Ah nh ch) := X22.cells 1
  have z4 : w2.cell? ⟨w.heap.size + 1, 2, none⟩ = some (.int .i64 mode) := X22.cells 2
  clear b2 z1 X22
  go_wp2_with fail
  refine (hz'.out _).mono ?_
  rintro e w3 ⟨rfl, b3⟩
  rw [hs.out]
  go_wp2_with fail
  go_ret
  exact ⟨rfl, B2.out.trans (b3.mono B2.out.size)⟩
 obtain ⟨hnj1, hnh1⟩ := szSe_small hneg' hhi
 rw [hL] at hs1 hn
 have hT := hid (fun W h hB => toProgram_any w.heap.size A n c p (by omega) hL (hs2.mono (by omega)) W h hB)
 have hTs := hid (fun W h hB => toSession_any w.heap.size Aj Ah nj nh cj ch mode js hs (by omega) (by omega) hLj hLh W h hB)
 have hEp := hid (fun B A' A'' c' c'' W h h' hB => eqProgram_same B A' A'' n c' c'' p (by omega) hL (hs2.mono (by omega)) W h h' hB)
 have hEs := hid (fun B Aj Aj' Ah Ah' cj cj' ch ch' W h h' hB => eqSession_same B Aj Aj' Ah Ah' nj cj cj' nh ch ch' mode js hs (by omega) (by omega) hLj hLh W h h' hB)
 have hS := fun lo c ch A Aj Ah W h h' => neededS_any lo n c nj nh nj ch A Aj Ah p js hs mode fuel code (Nat.le_refl _) (by omega) hL (hs2.mono (by omega)) (by omega) hLj (by omega) hLh W h h'
 have hI := fun lo c ch A Aj Ah W h h' => neededI_any lo n c nj nh nj ch A Aj Ah p js hs mode fuel code (Nat.le_refl _) (by omega) hL (hs2.mono (by omega)) (by omega) hLj (by omega) hLh W h h'
 generalize Sep.neededR p js hs mode fuel code = r at hS hI
 obtain ⟨z0, k0⟩ := r
 unfold NumR at hS hI
 dsimp only at hS hI
 have HS := hid hS
 have HI := hid hI
 have hbb : (k0 != k0) = false := by simp
 have hbz : (z0 != z0) = false := by simp
 rw [hL, hLj, hLh]
 have HL := hid hL
 clear hL hLj hLh hs2 hsm hS hI hs1 hn hnj hnh hnj1 hnh1
 generalize hsz : szP 1048576 p = l1 at *
 clear hsz
 generalize hsz : szSe l1 nj nh = l2 at *
 clear hsz
 go_enter Try.func12, Try.ntmps12
 go_upto_region 1 with fail
 change (fun V => Code.wp _ _ _ _ V) _
 refine gen_world (X := fun V => Blk V w.heap.size 24 #[.slice A n c] ∧ Blk V (w.heap.size + 1) 28 #[.slice Aj nj cj, .slice Ah nh ch, .int .i64 mode] ∧ Below w.heap.size w V) ⟨heap2_0 w _ _, heap2_1 w _ _, h2.out⟩ ?_
 rintro w1 ⟨x1, x2, b1⟩
 have z1 : w1.cell? ⟨w.heap.size, 0, none⟩ = some (.slice A n c) := x1.cells 0
 have X1 := hid x1
 have X2 := hid x2
 have B1 := hid b1
 clear x1 x2 b1
 go_wp2_with fail
 refine (hz.out _ (hR.out.below B1.out) B1.out.size).mono ?_
 rintro e w2 ⟨rfl, b2⟩
 have B2 := hid (B1.out.trans (b2.mono B1.out.size))
 have X21 := hid (X1.out.below b2 X1.out.lt)
 have X22 := hid (X2.out.below b2 X2.out.lt)
 have z2 : w2.cell? ⟨w.heap.size + 1, 0, none⟩ = some (.slice Aj nj cj) := X22.out.cells 0
 have z3 : w2.cell? ⟨w.heap.size + 1, 1, none⟩ = some (.slice Ah nh ch) := X22.out.cells 1
 have z4 : w2.cell? ⟨w.heap.size + 1, 2, none⟩ = some (.int .i64 mode) := X22.out.cells 2
 clear b2 z1 X1 X2
 go_wp2_with fail
 refine (hz'.out _).mono ?_
 rintro e w3 ⟨rfl, b3⟩
 have B3 := hid (B2.out.trans (b3.mono B2.out.size))
 have X31 := hid (X21.out.below b3 X21.out.lt)
 have X32 := hid (X22.out.below b3 X22.out.lt)
 clear b3 z2 z3 z4 X21 X22
 have hX := hid (fun (V : World) (b : Below w3.heap.size w3 V) => (show V.cell? ⟨w.heap.size, 0, none⟩ = some (.slice A n c) ∧ V.cell? ⟨w.heap.size + 1, 0, none⟩ = some (.slice Aj nj cj) ∧ V.cell? ⟨w.heap.size + 1, 1, none⟩ = some (.slice Ah nh ch) ∧ V.cell? ⟨w.heap.size + 1, 2, none⟩ = some (.int .i64 mode) from ⟨(X31.out.below b X31.out.lt).cells 0, (X32.out.below b X32.out.lt).cells 0, (X32.out.below b X32.out.lt).cells 1, (X32.out.below b X32.out.lt).cells 2⟩))
 have BX := hid (fun (V : World) (b : Below w3.heap.size w3 V) => (show Below w.heap.size w V from B3.out.trans (b.mono B3.out.size)))
 go_wp2_with fail
 have S0 : (fun V => V.cell? ⟨w.heap.size, 0, none⟩ = some (.slice A n c) ∧ V.cell? ⟨w.heap.size + 1, 0, none⟩ = some (.slice Aj nj cj) ∧ V.cell? ⟨w.heap.size + 1, 1, none⟩ = some (.slice Ah nh ch) ∧ V.cell? ⟨w.heap.size + 1, 2, none⟩ = some (.int .i64 mode)) w3.drew := hX.out _ (Below.refl _ _).drew
 refine Last2.region_last [] (fun V => V.cell? ⟨w.heap.size, 0, none⟩ = some (.slice A n c) ∧ V.cell? ⟨w.heap.size + 1, 0, none⟩ = some (.slice Aj nj cj) ∧ V.cell? ⟨w.heap.size + 1, 1, none⟩ = some (.slice Ah nh ch) ∧ V.cell? ⟨w.heap.size + 1, 2, none⟩ = some (.int .i64 mode)) (by kernel_rfl) ?_
 refine tk 0 27 (.agg #[.slice A n c]) S0 ?_
 simp only [Act.put, Last2.s]
 refine tk 2 29 (.agg #[.slice Aj nj cj, .slice Ah nh ch, .int .i64 mode]) S0 ?_
 simp only [Act.put, Last2.s]
 refine tk 4 31 (.int .i64 fuel) S0 ?_
 simp only [Act.put, Last2.s]
 refine tk 5 32 (.int .i64 code) S0 ?_
 simp only [Act.put, Last2.s]
 refine Last2.last_one (i := 1) (o := { dst := some 28, op := .call { callee := .value (.func 18), args := #[.tmp 27], argTypes := #[24] }, type := _, pos := _, after := _, guard := _ }) (by kernel_rfl) rfl rfl (fun K hK => ?_)
 go_simp
 refine (hT.out w3.drew (hR.out.below (BX.out _ (Below.refl _ _).drew)) (BX.out _ (Below.refl _ _).drew).size).mono ?_
 rintro e wa ⟨g1, rfl, oa, ba⟩
 have ta : Below w3.heap.size w3 wa := (Below.refl _ _).drew.trans ba
 refine hK.out _ _ (fun _ => hX.out wa ta) ?_
 clear hK K
 try simp only [Act.put, Last2.s]
 refine Last2.last_one (i := 3) (o := { dst := some 30, op := .call { callee := .value (.func 19), args := #[.tmp 29], argTypes := #[28] }, type := _, pos := _, after := _, guard := _ }) (by kernel_rfl) rfl rfl (fun K hK => ?_)
 go_simp
 refine (hTs.out wa (hRs.out.below (BX.out _ ta)) (BX.out _ ta).size).mono ?_
 rintro e wb ⟨g2, g3, rfl, ob, bb⟩
 have tb : Below w3.heap.size w3 wb := ta.trans (bb.mono ta.size)
 refine hK.out _ _ (fun _ => hX.out wb tb) ?_
 clear hK K
 try simp only [Act.put, Last2.s]
 refine Last2.last_one (i := 6) (o := { dst := some 33, op := .call { callee := .value (.func 47), args := #[.tmp 28, .tmp 30, .tmp 31, .tmp 32], argTypes := #[35, 39, 3, 3] }, type := _, pos := _, after := _, guard := _ }) (by kernel_rfl) rfl rfl (fun K hK => ?_)
 go_simp
 refine (HS.out _ _ _ _ _ _ wb (oa.below bb) ob.rd).mono ?_
 rintro e wc ⟨rfl, bc⟩
 have tc : Below w3.heap.size w3 wc := tb.trans (bc.mono tb.size)
 refine hK.out _ _ (fun _ => hX.out wc tc) ?_
 clear hK K
 try simp only [Act.put, Last2.s]
 have S3 := hX.out wc tc
 refine Last2.last_take (i := 7) (d := some 26) (v := .tuple #[.int .i64 z0, .bool k0]) rfl rfl (by kernel_rfl) (by kernel_rfl) (by kernel_rfl) (fun _ _ _ h => h) rfl (by kernel_rfl) (by kernel_rfl) rfl ?_ S3 ?_
 ·(intro V hV; (try dsimp only at hV); go_simp; try with_reducible rfl)
 simp only [Act.put, Last2.s]
 refine Last2.last_take (i := 8) (d := some 34) (v := .int .i64 z0) rfl rfl (by kernel_rfl) (by kernel_rfl) (by kernel_rfl) (fun _ _ _ h => h) rfl (by kernel_rfl) (by kernel_rfl) rfl ?_ S3 ?_
 ·(intro V hV; (try dsimp only at hV); go_simp; try with_reducible rfl)
 simp only [Act.put, Last2.s]
 refine Last2.last_take (i := 9) (d := some 35) (v := .bool k0) rfl rfl (by kernel_rfl) (by kernel_rfl) (by kernel_rfl) (fun _ _ _ h => h) rfl (by kernel_rfl) (by kernel_rfl) rfl ?_ S3 ?_
 ·(intro V hV; (try dsimp only at hV); go_simp; try with_reducible rfl)
 simp only [Act.put, Last2.s]
 refine Last2.last_take (i := 10) (d := some 10) (v := .int .i64 z0) rfl rfl (by kernel_rfl) (by kernel_rfl) (by kernel_rfl) (fun _ _ _ h => h) rfl (by kernel_rfl) (by kernel_rfl) rfl ?_ S3 ?_
 ·(intro V hV; (try dsimp only at hV); go_simp; try with_reducible rfl)
 simp only [Act.put, Last2.s]
 refine Last2.last_take (i := 11) (d := some 11) (v := .bool k0) rfl rfl (by kernel_rfl) (by kernel_rfl) (by kernel_rfl) (fun _ _ _ h => h) rfl (by kernel_rfl) (by kernel_rfl) rfl ?_ S3 ?_
 ·(intro V hV; (try dsimp only at hV); go_simp; try with_reducible rfl)
 simp only [Act.put, Last2.s]
 refine Last2.last_done (by kernel_rfl) ?_ _
 have TC := hid tc
 have y0 := S3.1
 clear S0 S3 ta tb tc oa ob ba bb bc
 go_wp2_with fail
 refine (hT.out wc (hR.out.below (BX.out _ TC.out)) (BX.out _ TC.out).size).mono ?_
 rintro e w5 ⟨gx, rfl, o5, b5⟩
 have T5 := hid (TC.out.trans (b5.mono TC.out.size))
 have O5 := hid o5
 clear o5 b5 y0
 go_upto_region 10 with fail
 change (fun V => Code.wp _ _ _ _ V) _
 refine gen_world (X := fun V => Blk V w5.heap.size 35 #[.slice (some ⟨gx, 0, none⟩) n n] ∧ Below w5.heap.size w5 V) ⟨heap1_0 w5 _, (Below.refl _ _).alloc (Nat.le_refl _) _⟩ ?_
 rintro w6 ⟨x6, b6⟩
 have T6 := hid (T5.out.trans (b6.mono T5.out.size))
 have X6 := hid x6
 have O6 := hid (O5.out.below b6)
 obtain ⟨-, y1, y2, y3⟩ := hX.out w6 T6.out
 clear x6 b6 O5
 generalize w5.heap.size = b16 at *
 go_wp2_with fail
 refine (hTs.out w6 (hRs.out.below (BX.out _ T6.out)) (BX.out _ T6.out).size).mono ?_
 rintro e w7 ⟨gj, gh, rfl, o7, b7⟩
 have T7 := hid (T6.out.trans (b7.mono T6.out.size))
 have O7 := hid o7
 have X7 := hid (X6.out.below b7 X6.out.lt)
 have P7 := hid (O6.out.below b7)
 clear o7 b7 y1 y2 y3 O6 X6
 go_upto_region 11 with fail
 change (fun V => Code.wp _ _ _ _ V) _
 refine gen_world (X := fun V => Blk V w7.heap.size 39 #[.slice (some ⟨gj, 0, none⟩) nj nj, .slice (some ⟨gh, 0, none⟩) nh nh, .int .i64 mode] ∧ Below w7.heap.size w7 V) ⟨heap1_0 w7 _, (Below.refl _ _).alloc (Nat.le_refl _) _⟩ ?_
 rintro w8 ⟨x8, b8⟩
 have T8 := hid (T7.out.trans (b8.mono T7.out.size))
 have X8 := hid x8
 have X81 := hid (X7.out.below b8 X7.out.lt)
 have O8 := hid (O7.out.below b8)
 have P8 := hid (P7.out.below b8)
 have u0 : w8.cell? ⟨b16, 0, none⟩ = some (.slice (some ⟨gx, 0, none⟩) n n) := X81.out.cells 0
 have u1 : w8.cell? ⟨w7.heap.size, 0, none⟩ = some (.slice (some ⟨gj, 0, none⟩) nj nj) := x8.cells 0
 have u2 : w8.cell? ⟨w7.heap.size, 1, none⟩ = some (.slice (some ⟨gh, 0, none⟩) nh nh) := x8.cells 1
 have u3 : w8.cell? ⟨w7.heap.size, 2, none⟩ = some (.int .i64 mode) := x8.cells 2
 clear x8 b8 O7 P7 X7
 generalize w7.heap.size = b17 at *
 go_wp2_with fail
 refine (HI.out _ _ _ _ _ _ w8 P8.out O8.out.rd).mono ?_
 rintro e w9 ⟨rfl, b9⟩
 have T9 := hid (T8.out.trans (b9.mono T8.out.size))
 have hX9 := hid (fun (V : World) (b : Below w9.heap.size w9 V) => (show V.cell? ⟨w.heap.size, 0, none⟩ = some (.slice A n c) ∧ (V.cell? ⟨w.heap.size + 1, 0, none⟩ = some (.slice Aj nj cj) ∧ V.cell? ⟨w.heap.size + 1, 1, none⟩ = some (.slice Ah nh ch) ∧ V.cell? ⟨w.heap.size + 1, 2, none⟩ = some (.int .i64 mode)) ∧ V.cell? ⟨b16, 0, none⟩ = some (.slice (some ⟨gx, 0, none⟩) n n) ∧ (V.cell? ⟨b17, 0, none⟩ = some (.slice (some ⟨gj, 0, none⟩) nj nj) ∧ V.cell? ⟨b17, 1, none⟩ = some (.slice (some ⟨gh, 0, none⟩) nh nh) ∧ V.cell? ⟨b17, 2, none⟩ = some (.int .i64 mode)) from
  let b8 := b9.trans (b.mono b9.size)
  let y9 := X8.out.below b8 X8.out.lt
  ⟨(hX.out V (T9.out.trans (b.mono T9.out.size))).1, (hX.out V (T9.out.trans (b.mono T9.out.size))).2, (X81.out.below b8 X81.out.lt).cells 0, y9.cells 0, y9.cells 1, y9.cells 2⟩))
 have BX9 := hid (fun (V : World) (b : Below w9.heap.size w9 V) => BX.out V (T9.out.trans (b.mono T9.out.size)))
 have HRx := hid (fun (V : World) (b : Below w9.heap.size w9 V) => (show RdP V V.heap.size (some ⟨gx, 0, none⟩) p from (P8.out.below (b9.trans (b.mono b9.size))).rd))
 have HRy := hid (fun (V : World) (b : Below w9.heap.size w9 V) => (show RdSe V V.heap.size (some ⟨gj, 0, none⟩) (some ⟨gh, 0, none⟩) js hs from (O8.out.below (b9.trans (b.mono b9.size))).rd))
 clear b9 u0 u1 u2 u3 hX BX O8 P8 X8 X81
 go_wp2_with fail
 have S01 : (fun V => V.cell? ⟨b16, 0, none⟩ = some (.slice (some ⟨gx, 0, none⟩) n n) ∧ V.cell? ⟨w.heap.size, 0, none⟩ = some (.slice A n c)) w9.drew := ⟨(hX9.out w9 (Below.refl _ _)).2.2.1, (hX9.out w9 (Below.refl _ _)).1⟩
 refine Last2.region_last [] (fun V => V.cell? ⟨b16, 0, none⟩ = some (.slice (some ⟨gx, 0, none⟩) n n) ∧ V.cell? ⟨w.heap.size, 0, none⟩ = some (.slice A n c)) (by kernel_rfl) ?_
 refine Last2.last_take (i := 0) (d := some 56) (v := .agg #[.slice (some ⟨gx, 0, none⟩) n n]) rfl rfl (by kernel_rfl) (by kernel_rfl) (by kernel_rfl) (fun _ _ _ h => h) rfl (by kernel_rfl) (by kernel_rfl) rfl ?_ S01 ?_
 ·(intro V hV; (try dsimp only at hV); go_simp; try with_reducible rfl)
 simp only [Act.put, Last2.s]
 refine Last2.last_take (i := 1) (d := some 57) (v := .agg #[.slice A n c]) rfl rfl (by kernel_rfl) (by kernel_rfl) (by kernel_rfl) (fun _ _ _ h => h) rfl (by kernel_rfl) (by kernel_rfl) rfl ?_ S01 ?_
 ·(intro V hV; (try dsimp only at hV); go_simp; try with_reducible rfl)
 simp only [Act.put, Last2.s]
 refine Last2.last_one (i := 2) (o := { dst := some 58, op := .call { callee := .value (.func 18), args := #[.tmp 57], argTypes := #[24] }, type := _, pos := _, after := _, guard := _ }) (by kernel_rfl) rfl rfl (fun K hK => ?_)
 go_simp
 refine (hT.out w9.drew (hR.out.below (BX9.out _ (Below.refl _ _).drew)) (BX9.out _ (Below.refl _ _).drew).size).mono ?_
 rintro e wq1 ⟨gz1, rfl, oz1, bz1⟩
 have tq1 : Below w9.heap.size w9 wq1 := (Below.refl _ _).drew.trans bz1
 refine hK.out _ _ (fun _ => ⟨(hX9.out wq1 tq1).2.2.1, (hX9.out wq1 tq1).1⟩) ?_
 clear hK K
 try simp only [Act.put, Last2.s]
 refine Last2.last_one (i := 3) (o := { dst := some 59, op := .call { callee := .value (.func 21), args := #[.tmp 56, .tmp 58], argTypes := #[35, 35] }, type := _, pos := _, after := _, guard := _ }) (by kernel_rfl) rfl rfl (fun K hK => ?_)
 go_simp
 refine (hEp.out wq1.heap.size (some ⟨gx, 0, none⟩) (some ⟨gz1, 0, none⟩) n n wq1 ((HRx.out wq1 tq1)) oz1.rd (Nat.le_refl _)).mono ?_
 rintro e wr1 ⟨rfl, br1⟩
 have tr1 : Below w9.heap.size w9 wr1 := tq1.trans (br1.mono tq1.size)
 refine hK.out _ _ (fun _ => ⟨(hX9.out wr1 tr1).2.2.1, (hX9.out wr1 tr1).1⟩) ?_
 clear hK K
 try simp only [Act.put, Last2.s]
 have S11 : (fun V => V.cell? ⟨b16, 0, none⟩ = some (.slice (some ⟨gx, 0, none⟩) n n) ∧ V.cell? ⟨w.heap.size, 0, none⟩ = some (.slice A n c)) wr1 := ⟨(hX9.out wr1 tr1).2.2.1, (hX9.out wr1 tr1).1⟩
 refine Last2.last_take (i := 4) (d := some 60) (v := .bool false) rfl rfl (by kernel_rfl) (by kernel_rfl) (by kernel_rfl) (fun _ _ _ h => h) rfl (by kernel_rfl) (by kernel_rfl) rfl ?_ S11 ?_
 ·(intro V hV; (try dsimp only at hV); go_simp; try with_reducible rfl)
 simp only [Act.put, Last2.s]
 refine Last2.last_done (by kernel_rfl) ?_ _
 have TR1 := hid tr1
 clear oz1 bz1 br1 tq1 S01 S11 tr1
 have tr1 := TR1.out
 go_wp2_with fail
 have S02 : (fun V => (V.cell? ⟨b17, 0, none⟩ = some (.slice (some ⟨gj, 0, none⟩) nj nj) ∧ V.cell? ⟨b17, 1, none⟩ = some (.slice (some ⟨gh, 0, none⟩) nh nh) ∧ V.cell? ⟨b17, 2, none⟩ = some (.int .i64 mode)) ∧ V.cell? ⟨w.heap.size + 1, 0, none⟩ = some (.slice Aj nj cj) ∧ V.cell? ⟨w.heap.size + 1, 1, none⟩ = some (.slice Ah nh ch) ∧ V.cell? ⟨w.heap.size + 1, 2, none⟩ = some (.int .i64 mode)) wr1.drew := ⟨(hX9.out wr1 tr1).2.2.2, (hX9.out wr1 tr1).2.1⟩
 refine Last2.region_last [] (fun V => (V.cell? ⟨b17, 0, none⟩ = some (.slice (some ⟨gj, 0, none⟩) nj nj) ∧ V.cell? ⟨b17, 1, none⟩ = some (.slice (some ⟨gh, 0, none⟩) nh nh) ∧ V.cell? ⟨b17, 2, none⟩ = some (.int .i64 mode)) ∧ V.cell? ⟨w.heap.size + 1, 0, none⟩ = some (.slice Aj nj cj) ∧ V.cell? ⟨w.heap.size + 1, 1, none⟩ = some (.slice Ah nh ch) ∧ V.cell? ⟨w.heap.size + 1, 2, none⟩ = some (.int .i64 mode)) (by kernel_rfl) ?_
 refine Last2.last_take (i := 0) (d := some 61) (v := .agg #[.slice (some ⟨gj, 0, none⟩) nj nj, .slice (some ⟨gh, 0, none⟩) nh nh, .int .i64 mode]) rfl rfl (by kernel_rfl) (by kernel_rfl) (by kernel_rfl) (fun _ _ _ h => h) rfl (by kernel_rfl) (by kernel_rfl) rfl ?_ S02 ?_
 ·(intro V hV; (try dsimp only at hV); go_simp; try with_reducible rfl)
 simp only [Act.put, Last2.s]
 refine Last2.last_take (i := 1) (d := some 62) (v := .agg #[.slice Aj nj cj, .slice Ah nh ch, .int .i64 mode]) rfl rfl (by kernel_rfl) (by kernel_rfl) (by kernel_rfl) (fun _ _ _ h => h) rfl (by kernel_rfl) (by kernel_rfl) rfl ?_ S02 ?_
 ·(intro V hV; (try dsimp only at hV); go_simp; try with_reducible rfl)
 simp only [Act.put, Last2.s]
 refine Last2.last_one (i := 2) (o := { dst := some 63, op := .call { callee := .value (.func 19), args := #[.tmp 62], argTypes := #[28] }, type := _, pos := _, after := _, guard := _ }) (by kernel_rfl) rfl rfl (fun K hK => ?_)
 go_simp
 refine (hTs.out wr1.drew (hRs.out.below (BX9.out _ (tr1.drew))) (BX9.out _ (tr1.drew)).size).mono ?_
 rintro e wq2 ⟨gy1, gy2, rfl, oz2, bz2⟩
 have tq2 : Below wr1.heap.size wr1 wq2 := (Below.refl _ _).drew.trans bz2
 refine hK.out _ _ (fun _ => ⟨(hX9.out wq2 (tr1.trans (tq2.mono tr1.size))).2.2.2, (hX9.out wq2 (tr1.trans (tq2.mono tr1.size))).2.1⟩) ?_
 clear hK K
 try simp only [Act.put, Last2.s]
 refine Last2.last_one (i := 3) (o := { dst := some 64, op := .call { callee := .value (.func 22), args := #[.tmp 61, .tmp 63], argTypes := #[39, 39] }, type := _, pos := _, after := _, guard := _ }) (by kernel_rfl) rfl rfl (fun K hK => ?_)
 go_simp
 refine (hEs.out wq2.heap.size (some ⟨gj, 0, none⟩) (some ⟨gy1, 0, none⟩) (some ⟨gh, 0, none⟩) (some ⟨gy2, 0, none⟩) nj nj nh nh wq2 ((HRy.out wq2 (tr1.trans (tq2.mono tr1.size)))) oz2.rd (Nat.le_refl _)).mono ?_
 rintro e wr2 ⟨rfl, br2⟩
 have tr2 : Below wr1.heap.size wr1 wr2 := tq2.trans (br2.mono tq2.size)
 refine hK.out _ _ (fun _ => ⟨(hX9.out wr2 (tr1.trans (tr2.mono tr1.size))).2.2.2, (hX9.out wr2 (tr1.trans (tr2.mono tr1.size))).2.1⟩) ?_
 clear hK K
 try simp only [Act.put, Last2.s]
 have S12 : (fun V => (V.cell? ⟨b17, 0, none⟩ = some (.slice (some ⟨gj, 0, none⟩) nj nj) ∧ V.cell? ⟨b17, 1, none⟩ = some (.slice (some ⟨gh, 0, none⟩) nh nh) ∧ V.cell? ⟨b17, 2, none⟩ = some (.int .i64 mode)) ∧ V.cell? ⟨w.heap.size + 1, 0, none⟩ = some (.slice Aj nj cj) ∧ V.cell? ⟨w.heap.size + 1, 1, none⟩ = some (.slice Ah nh ch) ∧ V.cell? ⟨w.heap.size + 1, 2, none⟩ = some (.int .i64 mode)) wr2 := ⟨(hX9.out wr2 (tr1.trans (tr2.mono tr1.size))).2.2.2, (hX9.out wr2 (tr1.trans (tr2.mono tr1.size))).2.1⟩
 refine Last2.last_take (i := 4) (d := some 65) (v := .bool false) rfl rfl (by kernel_rfl) (by kernel_rfl) (by kernel_rfl) (fun _ _ _ h => h) rfl (by kernel_rfl) (by kernel_rfl) rfl ?_ S12 ?_
 ·(intro V hV; (try dsimp only at hV); go_simp; try with_reducible rfl)
 simp only [Act.put, Last2.s]
 refine Last2.last_done (by kernel_rfl) ?_ _
 have TR2 := hid (tr1.trans (tr2.mono tr1.size))
 clear oz2 bz2 br2 tq2 S02 S12 tr2 tr1
 go_wp2_with fail
 go_ret
 exact ⟨rfl, BX9.out _ TR2.out⟩
set_option maxRecDepth 100000 in
theorem lifted (os : Os) (started : os.Started) (H : Type) (enc : TypeId × Value → H) :
  ReturnsInHanded {} Try.checked os 12 .any (Rows.fnExactJobsNeededSpec.pre6 enc Try.prog Try.f12 Rows.fnExactJobsNeededRow.domain false) (Rows.fnExactJobsNeededSpec.post enc Try.prog Try.f12 false true false false) := by
 refine returnsInHanded_of_change (C := Try.checked) own started (by kernel_rfl) Try.func12
  (ChangeSpec.witness6 (enc := enc) (C := Try.checked) false ⟨#[], #[.agg #[.slice none 0 0], .agg #[.slice none 0 0, .slice none 0 0, .int .i64 0], .int .i64 0, .int .i64 0], []⟩ 8 (by kernel_rfl) (by kernel_rfl) (by kernel_rfl) (by kernel_rfl)) ?_
 intro W base args ds gs before hval0 hW hcnd _
 have hval : ∀ (j : Nat) t v, Try.f12.params[j]? = some t → args[j]? = some v → Value.okWide Try.prog W .any base t v := hval0
 have hW' := hW
 obtain ⟨p, q, hA0, hV, rfl, hfz, hnd⟩ := hW
 have hA : DataW.TrodAll enc Try.prog W 0 (fun _ => true) true Try.f12.params.toList args.toList ds p := hA0
 rw [Try.params12] at hA hval
 obtain ⟨v0, vs0, d0, ds0, p0, q0, hargs, rfl, rfl, h0, rest0⟩ := trodAll_cons hA
 obtain ⟨v1, vs1, d1, ds1, p1, q1, rfl, rfl, rfl, h1, rest1⟩ := trodAll_cons rest0
 obtain ⟨v2, vs2, d2, ds2, p2, q2, rfl, rfl, rfl, h2, rest2⟩ := trodAll_cons rest1
 obtain ⟨v3, vs3, d3, ds3, p3, q3, rfl, rfl, rfl, h3, rest3⟩ := trodAll_cons rest2
 obtain ⟨rfl, rfl, rfl⟩ := trodAll_nil rest3
 obtain rfl : args = #[v0, v1, v2, v3] := by cases args; simp_all
 obtain ⟨rfl, rfl⟩ := trodVars_none hV
 obtain ⟨A0, c0, P0, rfl, n0, r0, f0, s0⟩ := open_prog (hval 0 24 v0 rfl rfl) h0
 obtain ⟨Aj, cj, js, Ah, ch, hs, md, rfl, nj, nh, rse, fm, fj, fh⟩ := open_session (hval 1 28 v1 rfl rfl) h1
 obtain ⟨z2, rfl, f2⟩ := open_int_fit (hval 2 3 v2 rfl rfl) h2
 obtain ⟨z3, rfl, f3⟩ := open_int_fit (hval 3 3 v3 rfl rfl) h3
 have lt0 : ∀ x ∈ p0, x.block < W.heap.size := by obtain ⟨m, hm⟩ := h0; exact DataW.trod_lt m _ _ _ hm
 have lt1 : ∀ x ∈ p1, x.block < W.heap.size := by obtain ⟨m, hm⟩ := h1; exact DataW.trod_lt m _ _ _ hm
 have lt2 : ∀ x ∈ p2, x.block < W.heap.size := by obtain ⟨m, hm⟩ := h2; exact DataW.trod_lt m _ _ _ hm
 have lt3 : ∀ x ∈ p3, x.block < W.heap.size := by obtain ⟨m, hm⟩ := h3; exact DataW.trod_lt m _ _ _ hm
 clear hA0 hval0
 refine (walk A0 c0 P0 Aj cj js Ah ch hs md z2 z3 n0 s0 nj nh W r0 rse).mono fun e W' ⟨he, hg⟩ => ?_
 subst he
 exact ⟨_, rfl, _, _, _, [], _, [], hW', trodAll_mk1 (shut_bool Try.underlying4 _), (trodAll_cons_mk (Below.trod laidOut (by kernel_rfl) (of_decide_eq_true (by kernel_rfl)) h0 hg lt0) (trodAll_cons_mk (Below.trod laidOut (by kernel_rfl) (of_decide_eq_true (by kernel_rfl)) h1 hg lt1) (trodAll_cons_mk (Below.trod laidOut (by kernel_rfl) (of_decide_eq_true (by kernel_rfl)) h2 hg lt2) (trodAll_cons_mk (Below.trod laidOut (by kernel_rfl) (of_decide_eq_true (by kernel_rfl)) h3 hg lt3) trodAll_mk0)))), rfl, hg.frame _, fun h => by cases h⟩
theorem over : Rows.fnExactJobsNeededRow.holds Try.pinned (OpenSpec.ofChange Rows.fnExactJobsNeededSpec) :=
 OpenClaim.holds_of_wide 12 Try.f12 rfl rfl rfl rfl rfl rfl rfl ⟨rfl, rfl, rfl, rfl, rfl⟩ rfl rfl rfl rfl rfl (by kernel_rfl) Try.func12 (by kernel_rfl)
  (of_decide_eq_true (by kernel_rfl)) (by unfold Func.isWrapper; first | (rw [if_pos (by decide +kernel)]; kernel_rfl) | (rw [if_neg (by decide +kernel)]; exact ⟨rfl, rfl⟩))
  (fun os started H enc _ => lifted os started H enc)
theorem proved : Rows.FnExactJobsNeededSaid :=
 over
#print axioms proved
end Go.Proofs.Ythejnpignlhgiaa.fnExactJobsNeeded
-- squeezed
