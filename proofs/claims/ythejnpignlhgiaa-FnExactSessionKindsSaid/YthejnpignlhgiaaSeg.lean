import Derived.Test.YthejnpignlhgiaaSei
import Derived.Test.YthejnpignlhgiaaM10
set_option linter.all false
namespace Go.Proofs.Ythejnpignlhgiaa.Seg
open Last2 (tk)
open Lib (hid)
open Go.ChangeShapes Go.WideShapes Go.ChangeAt Go.RowKit
open PL Mem To Srun Sst IntsP RowA Sz OpenP AskP StpS Res SemP Sep Sei
theorem isFn_in {p : Pg} {f : Int} {n : Nat} (ok : okProg p = true) (hl : p.length = n) : isFn p f = inP f n := by
 unfold isFn inP
 rw [ok, hl]
 rfl
set_option maxRecDepth 100000 in
set_option maxHeartbeats 8000000 in
theorem l10Ses_any (B n c nj nh cj ch : Nat) (A Aj Ah : Option Addr) (p : Pg) (js : List Pr) (hs : List Int) (mode : Int) (hn : n ≤ 9223372036854775807) (hl : p.length = n) (hsm : Small p 9223372036854775807) (hj : nj ≤ 9223372036854775807) (lj : js.length = nj) (hh : nh ≤ 9223372036854775807) (lh : hs.length = nh) (w : World) (hr : RdP w B A p) (hrs : RdSe w B Aj Ah js hs) (hB : B ≤ w.heap.size) :
  Calls Try.prog 61 #[.agg #[.slice A n c], .agg #[.slice Aj nj cj, .slice Ah nh ch, .int .i64 mode]] w fun e w' => e = .returned (.bool (okSes p js hs mode)) ∧ Below w.heap.size w w' := by
 have hP := hid (fun W (h : Below w.heap.size w W) => PrgS.l2Program_any B A n c p hn hl hsm W (hr.below (h.mono hB)) (Nat.le_trans hB h.size))
 have h2 := hid (App.Bl.alloc (App.Bl.alloc (App.Bl.refl w) (.cells #[.slice A n c] 35)) (.cells #[.slice Aj nj cj, .slice Ah nh ch, .int .i64 mode] 39))
 have HRD := hid (fun W (h : Below w.heap.size w W) => hrs.below (h.mono hB))
 clear hr hrs
 cases ok : okProg p with
 | false =>
  have hs' := hid (show okSes p js hs mode = false by unfold okSes; rw [ok]; rfl)
  rw [ok] at hP
  clear ok
  go_enter Try.func61, Try.ntmps61
  go_upto_region 1 with fail
  change (fun V => Code.wp _ _ _ _ V) _
  refine gen_world (X := fun V => Blk V w.heap.size 35 #[.slice A n c] ∧ Blk V (w.heap.size + 1) 39 #[.slice Aj nj cj, .slice Ah nh ch, .int .i64 mode] ∧ Below w.heap.size w V) ⟨heap2_0 w _ _, heap2_1 w _ _, h2.out⟩ ?_
  rintro w1 ⟨x1, x2, b1⟩
  have z1 : w1.cell? ⟨w.heap.size, 0, none⟩ = some (.slice A n c) := x1.cells 0
  have z2 : w1.cell? ⟨w.heap.size + 1, 0, none⟩ = some (.slice Aj nj cj) := x2.cells 0
  have z3 : w1.cell? ⟨w.heap.size + 1, 1, none⟩ = some (.slice Ah nh ch) := x2.cells 1
  have z4 : w1.cell? ⟨w.heap.size + 1, 2, none⟩ = some (.int .i64 mode) := x2.cells 2
  have l1 := x2.lt
  have X1 := hid x1
  have X2 := hid x2
  have B1 := hid b1
  clear x1 x2 b1
  go_wp2_with fail
  refine (hP.out _ B1.out).mono ?_
  rintro e wp ⟨rfl, bp⟩
  have y2 : wp.cell? ⟨w.heap.size + 1, 0, none⟩ = some (.slice Aj nj cj) := (X2.out.below bp X2.out.lt).cells 0
  have y3 : wp.cell? ⟨w.heap.size + 1, 1, none⟩ = some (.slice Ah nh ch) := (X2.out.below bp X2.out.lt).cells 1
  have y4 : wp.cell? ⟨w.heap.size + 1, 2, none⟩ = some (.int .i64 mode) := (X2.out.below bp X2.out.lt).cells 2
  have BB := hid (B1.out.trans (bp.mono B1.out.size))
  clear z1 z2 z3 z4 bp
  go_wp2_with fail
  go_ret
  exact ⟨by rw [hs'.out]; rfl, BB.out⟩
 | true =>
  by_cases k1 : nj ≤ 12
  ·by_cases k2 : nh ≤ 12
   ·cases km : btw mode 1 3 with
    | false =>
     have d1 : decide ((nj : Int) > 12) = false := by simp; omega
     have d2 : decide ((nh : Int) > 12) = false := by simp; omega
     have hM := hid (fun W => km ▸ l1In_any mode 1 3 W)
     have hs' := hid (show okSes p js hs mode = false by unfold okSes sesB; rw [km]; simp)
     rw [ok] at hP
     clear ok
     go_enter Try.func61, Try.ntmps61
     go_upto_region 1 with fail
     change (fun V => Code.wp _ _ _ _ V) _
     refine gen_world (X := fun V => Blk V w.heap.size 35 #[.slice A n c] ∧ Blk V (w.heap.size + 1) 39 #[.slice Aj nj cj, .slice Ah nh ch, .int .i64 mode] ∧ Below w.heap.size w V) ⟨heap2_0 w _ _, heap2_1 w _ _, h2.out⟩ ?_
     rintro w1 ⟨x1, x2, b1⟩
     have z1 : w1.cell? ⟨w.heap.size, 0, none⟩ = some (.slice A n c) := x1.cells 0
     have z2 : w1.cell? ⟨w.heap.size + 1, 0, none⟩ = some (.slice Aj nj cj) := x2.cells 0
     have z3 : w1.cell? ⟨w.heap.size + 1, 1, none⟩ = some (.slice Ah nh ch) := x2.cells 1
     have z4 : w1.cell? ⟨w.heap.size + 1, 2, none⟩ = some (.int .i64 mode) := x2.cells 2
     have l1 := x2.lt
     have X1 := hid x1
     have X2 := hid x2
     have B1 := hid b1
     clear x1 x2 b1
     go_wp2_with fail
     refine (hP.out _ B1.out).mono ?_
     rintro e wp ⟨rfl, bp⟩
     have y2 : wp.cell? ⟨w.heap.size + 1, 0, none⟩ = some (.slice Aj nj cj) := (X2.out.below bp X2.out.lt).cells 0
     have y3 : wp.cell? ⟨w.heap.size + 1, 1, none⟩ = some (.slice Ah nh ch) := (X2.out.below bp X2.out.lt).cells 1
     have y4 : wp.cell? ⟨w.heap.size + 1, 2, none⟩ = some (.int .i64 mode) := (X2.out.below bp X2.out.lt).cells 2
     have BB := hid (B1.out.trans (bp.mono B1.out.size))
     clear z1 z2 z3 z4 bp
     go_wp2_with fail
     refine (hM.out _).mono ?_
     rintro e wm ⟨rfl, rfl⟩
     go_wp2_with fail
     go_ret
     exact ⟨by rw [hs'.out]; rfl, BB.out⟩
    | true =>
     have BS := hid (fun (a b : Bool) (ha : js.all (okJob p) = a) (hb : hs.all (isFn p) = b) => (show okSes p js hs mode = (a && b) by unfold okSes sesB; rw [ok, ha, hb, km, lj, lh, decide_eq_true k1, decide_eq_true k2]; rfl))
     have HIN := hid (fun (f : Int) => isFn_in (f := f) ok hl)
     have d1 : decide ((nj : Int) > 12) = false := by simp; omega
     have d2 : decide ((nh : Int) > 12) = false := by simp; omega
     have hM := hid (fun W => km ▸ l1In_any mode 1 3 W)
     rw [ok] at hP
     have LJ := hid lj
     have LH := hid lh
     clear km lj lh hl hsm ok
     go_enter Try.func61, Try.ntmps61
     go_upto_region 1 with fail
     change (fun V => Code.wp _ _ _ _ V) _
     refine gen_world (X := fun V => Blk V w.heap.size 35 #[.slice A n c] ∧ Blk V (w.heap.size + 1) 39 #[.slice Aj nj cj, .slice Ah nh ch, .int .i64 mode] ∧ Below w.heap.size w V) ⟨heap2_0 w _ _, heap2_1 w _ _, h2.out⟩ ?_
     rintro w1 ⟨x1, x2, b1⟩
     have z1 : w1.cell? ⟨w.heap.size, 0, none⟩ = some (.slice A n c) := x1.cells 0
     have z2 : w1.cell? ⟨w.heap.size + 1, 0, none⟩ = some (.slice Aj nj cj) := x2.cells 0
     have z3 : w1.cell? ⟨w.heap.size + 1, 1, none⟩ = some (.slice Ah nh ch) := x2.cells 1
     have z4 : w1.cell? ⟨w.heap.size + 1, 2, none⟩ = some (.int .i64 mode) := x2.cells 2
     have l1 := x2.lt
     have X1 := hid x1
     have X2 := hid x2
     have B1 := hid b1
     clear x1 x2 b1
     go_wp2_with fail
     refine (hP.out _ B1.out).mono ?_
     rintro e wp ⟨rfl, bp⟩
     have Bp := hid (B1.out.trans (bp.mono B1.out.size))
     have y2 : wp.cell? ⟨w.heap.size + 1, 0, none⟩ = some (.slice Aj nj cj) := (X2.out.below bp X2.out.lt).cells 0
     have y3 : wp.cell? ⟨w.heap.size + 1, 1, none⟩ = some (.slice Ah nh ch) := (X2.out.below bp X2.out.lt).cells 1
     have y4 : wp.cell? ⟨w.heap.size + 1, 2, none⟩ = some (.int .i64 mode) := (X2.out.below bp X2.out.lt).cells 2
     have hX := hid (fun (V : World) (b : Below w1.heap.size w1 V) => (show V.cell? ⟨w.heap.size, 0, none⟩ = some (.slice A n c) ∧ V.cell? ⟨w.heap.size + 1, 0, none⟩ = some (.slice Aj nj cj) ∧ V.cell? ⟨w.heap.size + 1, 1, none⟩ = some (.slice Ah nh ch) from ⟨(X1.out.below b X1.out.lt).cells 0, (X2.out.below b X2.out.lt).cells 0, (X2.out.below b X2.out.lt).cells 1⟩))
     have BP := hid bp
     clear z1 z2 z3 z4 X1 X2 bp hP
     go_wp2_with fail
     refine (hM.out _).mono ?_
     rintro e wm ⟨rfl, rfl⟩
     clear y2 y3 y4
     go_wp2_with fail
     go_loopw [5] (fun i wr => ∃ k : Nat, k ≤ nj ∧ i = .int .i64 k ∧ Hid ((js.take k).all (okJob p) = true) ∧ Below w1.heap.size w1 wr) (fun i _ => nj - (intOf i).toNat)
     case atStart => exact ⟨0, Nat.zero_le _, rfl, hid rfl, BP.out⟩
     case round =>
      obtain ⟨k, hk, rfl, hal, hb⟩ := hrel
      have bw := B1.out.trans (hb.mono B1.out.size)
      obtain ⟨-, zj, -⟩ := hX.out wr hb
      by_cases hlt : k < nj
      ·obtain ⟨⟨s0, s1⟩, hs⟩ : ∃ s, js[k]? = some s := ⟨_, List.getElem?_eq_getElem (by rw [LJ.out]; exact hlt)⟩
       have HS := hid hs
       obtain ⟨ad, had, -⟩ := (HRD.out wr bw).jobs k _ hs
       subst had
       have hJ := hid (fun (V : World) (b : Below w1.heap.size w1 V) => (show V.cell? (ad.add (k * 2)) = some (.int .i64 s0) ∧ V.cell? ⟨(ad.add (k * 2)).block, (ad.add (k * 2)).off + 1, none⟩ = some (.int .i64 s1) from by
        obtain ⟨ad', e, -, h0, h1⟩ := (HRD.out V (B1.out.trans (b.mono B1.out.size))).jobs k _ HS.out
        cases e
        exact ⟨h0, h1⟩))
       clear hs
       cases hf : isFn p s0 with
       | false =>
        have hsb := hid (BS.out _ _ (all_no HS.out (show okJob p (s0, s1) = false by unfold okJob; rw [hf]; rfl)) rfl)
        have hfi := (HIN.out s0).symm.trans hf
        clear hf
        have HO := hid (fun (V : World) (b : Below w1.heap.size w1 V) => (show (fun V : World => V.cell? ⟨w.heap.size, 0, none⟩ = some (.slice A n c) ∧ V.cell? ⟨w.heap.size + 1, 0, none⟩ = some (.slice (some ad) nj cj) ∧ V.cell? (ad.add (k * 2)) = some (.int .i64 s0) ∧ V.cell? ⟨(ad.add (k * 2)).block, (ad.add (k * 2)).off + 1, none⟩ = some (.int .i64 s1)) V from ⟨(hX.out V b).1, (hX.out V b).2.1, (hJ.out V b).1, (hJ.out V b).2⟩))
        have bd : Below w1.heap.size w1 wr.drew := hb.drew
        have bd2 : Below w1.heap.size w1 (wr.drew.alloc (.cells #[.slice A n c] 35)) := bd.alloc bd.size _
        have S0 : (fun V : World => V.cell? ⟨w.heap.size, 0, none⟩ = some (.slice A n c) ∧ V.cell? ⟨w.heap.size + 1, 0, none⟩ = some (.slice (some ad) nj cj) ∧ V.cell? (ad.add (k * 2)) = some (.int .i64 s0) ∧ V.cell? ⟨(ad.add (k * 2)).block, (ad.add (k * 2)).off + 1, none⟩ = some (.int .i64 s1)) wr.drew := HO.out _ bd
        have S1 : (fun V : World => V.cell? ⟨w.heap.size, 0, none⟩ = some (.slice A n c) ∧ V.cell? ⟨w.heap.size + 1, 0, none⟩ = some (.slice (some ad) nj cj) ∧ V.cell? (ad.add (k * 2)) = some (.int .i64 s0) ∧ V.cell? ⟨(ad.add (k * 2)).block, (ad.add (k * 2)).off + 1, none⟩ = some (.int .i64 s1)) (wr.drew.alloc (.cells #[.slice A n c] 35)) := HO.out _ bd2
        go_wp2_with fail
        refine Last2.region_last [] (fun V : World => V.cell? ⟨w.heap.size, 0, none⟩ = some (.slice A n c) ∧ V.cell? ⟨w.heap.size + 1, 0, none⟩ = some (.slice (some ad) nj cj) ∧ V.cell? (ad.add (k * 2)) = some (.int .i64 s0) ∧ V.cell? ⟨(ad.add (k * 2)).block, (ad.add (k * 2)).off + 1, none⟩ = some (.int .i64 s1)) (by kernel_rfl) ?_
        refine tk 0 35 (.agg #[.slice A n c]) S0 ?_
        simp only [Act.put, Last2.s]
        refine tk 1 36 (.pointer (some ⟨w.heap.size + 1, 0, none⟩)) S0 ?_
        simp only [Act.put, Last2.s]
        refine tk 2 37 (.slice (some ad) nj cj) S0 ?_
        simp only [Act.put, Last2.s]
        refine tk 3 38 (.int .i64 k) S0 ?_
        simp only [Act.put, Last2.s]
        refine tk 4 39 (.pointer (some (ad.add (k * 2)))) S0 ?_
        simp only [Act.put, Last2.s]
        refine tk 5 40 (.pointer (some (ad.add (k * 2)))) S0 ?_
        simp only [Act.put, Last2.s]
        refine tk 6 41 (.int .i64 s0) S0 ?_
        simp only [Act.put, Last2.s]
        refine Last2.last_one (i := 7) (o := { dst := some 42, op := .call { callee := .value (.func 98), args := #[.tmp 35, .tmp 41], argTypes := #[35, 3] }, type := _, pos := _, after := _, guard := _ }) (by kernel_rfl) rfl rfl (fun K hK => ?_)
        go_simp
        refine (l2Function_any A n c s0 hn _).mono ?_
        rw [hfi]
        rintro e wq ⟨rfl, rfl⟩
        refine hK.out _ _ (fun _ => S1) ?_
        clear hK K
        try simp only [Act.put, Last2.s]
        refine Last2.last_take (i := 8) (d := some 43) (v := .bool true) rfl rfl (by kernel_rfl) (by kernel_rfl) (by kernel_rfl) (fun _ _ _ h => h) rfl (by kernel_rfl) (by kernel_rfl) rfl ?_ S1 ?_
        ·(intro V hV; (try dsimp only at hV); go_simp; try with_reducible rfl)
        simp only [Act.put, Last2.s]
        refine Last2.last_take (i := 9) (d := some 44) (v := .bool true) rfl rfl (by kernel_rfl) (by kernel_rfl) (by kernel_rfl) (fun _ _ _ h => h) rfl (by kernel_rfl) (by kernel_rfl) rfl ?_ S1 ?_
        ·(intro V hV; (try dsimp only at hV); go_simp; try with_reducible rfl)
        simp only [Act.put, Last2.s]
        refine Last2.last_skip (i := 10) (d := some 45) rfl rfl (by kernel_rfl) (by kernel_rfl) (by kernel_rfl) (fun _ _ _ h => h) rfl (by kernel_rfl) (by kernel_rfl) (by rfl) S1 ?_
        simp only [Act.put, Last2.s]
        refine Last2.last_skip (i := 11) (d := some 46) rfl rfl (by kernel_rfl) (by kernel_rfl) (by kernel_rfl) (fun _ _ _ h => h) rfl (by kernel_rfl) (by kernel_rfl) (by rfl) S1 ?_
        simp only [Act.put, Last2.s]
        refine Last2.last_skip (i := 12) (d := some 47) rfl rfl (by kernel_rfl) (by kernel_rfl) (by kernel_rfl) (fun _ _ _ h => h) rfl (by kernel_rfl) (by kernel_rfl) (by rfl) S1 ?_
        simp only [Act.put, Last2.s]
        refine Last2.last_skip (i := 13) (d := some 48) rfl rfl (by kernel_rfl) (by kernel_rfl) (by kernel_rfl) (fun _ _ _ h => h) rfl (by kernel_rfl) (by kernel_rfl) (by rfl) S1 ?_
        simp only [Act.put, Last2.s]
        refine Last2.last_skip (i := 14) (d := some 49) rfl rfl (by kernel_rfl) (by kernel_rfl) (by kernel_rfl) (fun _ _ _ h => h) rfl (by kernel_rfl) (by kernel_rfl) (by rfl) S1 ?_
        simp only [Act.put, Last2.s]
        refine Last2.last_skip (i := 15) (d := some 50) rfl rfl (by kernel_rfl) (by kernel_rfl) (by kernel_rfl) (fun _ _ _ h => h) rfl (by kernel_rfl) (by kernel_rfl) (by rfl) S1 ?_
        simp only [Act.put, Last2.s]
        refine Last2.last_skip (i := 16) (d := some 51) rfl rfl (by kernel_rfl) (by kernel_rfl) (by kernel_rfl) (fun _ _ _ h => h) rfl (by kernel_rfl) (by kernel_rfl) (by rfl) S1 ?_
        simp only [Act.put, Last2.s]
        refine Last2.last_skip (i := 17) (d := some 52) rfl rfl (by kernel_rfl) (by kernel_rfl) (by kernel_rfl) (fun _ _ _ h => h) rfl (by kernel_rfl) (by kernel_rfl) (by rfl) S1 ?_
        simp only [Act.put, Last2.s]
        refine Last2.last_take (i := 18) (d := some 53) (v := .bool true) rfl rfl (by kernel_rfl) (by kernel_rfl) (by kernel_rfl) (fun _ _ _ h => h) rfl (by kernel_rfl) (by kernel_rfl) rfl ?_ S1 ?_
        ·(intro V hV; (try dsimp only at hV); go_simp; try with_reducible rfl)
        simp only [Act.put, Last2.s]
        refine Last2.last_done (by kernel_rfl) ?_ _
        go_wp2_with fail
        go_ret
        exact ⟨by rw [hsb.out]; rfl, B1.out.trans (bd2.mono B1.out.size)⟩
       | true =>
        have hfi := (HIN.out s0).symm.trans hf
        cases hgi : isNum s1 with
        | false =>
         have hsb := hid (BS.out _ _ (all_no HS.out (show okJob p (s0, s1) = false by unfold okJob; rw [hf, hgi]; rfl)) rfl)
         clear hf
         have HO := hid (fun (V : World) (b : Below w1.heap.size w1 V) => (show (fun V : World => V.cell? ⟨w.heap.size, 0, none⟩ = some (.slice A n c) ∧ V.cell? ⟨w.heap.size + 1, 0, none⟩ = some (.slice (some ad) nj cj) ∧ V.cell? (ad.add (k * 2)) = some (.int .i64 s0) ∧ V.cell? ⟨(ad.add (k * 2)).block, (ad.add (k * 2)).off + 1, none⟩ = some (.int .i64 s1)) V from ⟨(hX.out V b).1, (hX.out V b).2.1, (hJ.out V b).1, (hJ.out V b).2⟩))
         have bd : Below w1.heap.size w1 wr.drew := hb.drew
         have bd2 : Below w1.heap.size w1 (wr.drew.alloc (.cells #[.slice A n c] 35)) := bd.alloc bd.size _
         have S0 : (fun V : World => V.cell? ⟨w.heap.size, 0, none⟩ = some (.slice A n c) ∧ V.cell? ⟨w.heap.size + 1, 0, none⟩ = some (.slice (some ad) nj cj) ∧ V.cell? (ad.add (k * 2)) = some (.int .i64 s0) ∧ V.cell? ⟨(ad.add (k * 2)).block, (ad.add (k * 2)).off + 1, none⟩ = some (.int .i64 s1)) wr.drew := HO.out _ bd
         have S1 : (fun V : World => V.cell? ⟨w.heap.size, 0, none⟩ = some (.slice A n c) ∧ V.cell? ⟨w.heap.size + 1, 0, none⟩ = some (.slice (some ad) nj cj) ∧ V.cell? (ad.add (k * 2)) = some (.int .i64 s0) ∧ V.cell? ⟨(ad.add (k * 2)).block, (ad.add (k * 2)).off + 1, none⟩ = some (.int .i64 s1)) (wr.drew.alloc (.cells #[.slice A n c] 35)) := HO.out _ bd2
         go_wp2_with fail
         refine Last2.region_last [] (fun V : World => V.cell? ⟨w.heap.size, 0, none⟩ = some (.slice A n c) ∧ V.cell? ⟨w.heap.size + 1, 0, none⟩ = some (.slice (some ad) nj cj) ∧ V.cell? (ad.add (k * 2)) = some (.int .i64 s0) ∧ V.cell? ⟨(ad.add (k * 2)).block, (ad.add (k * 2)).off + 1, none⟩ = some (.int .i64 s1)) (by kernel_rfl) ?_
         refine tk 0 35 (.agg #[.slice A n c]) S0 ?_
         simp only [Act.put, Last2.s]
         refine tk 1 36 (.pointer (some ⟨w.heap.size + 1, 0, none⟩)) S0 ?_
         simp only [Act.put, Last2.s]
         refine tk 2 37 (.slice (some ad) nj cj) S0 ?_
         simp only [Act.put, Last2.s]
         refine tk 3 38 (.int .i64 k) S0 ?_
         simp only [Act.put, Last2.s]
         refine tk 4 39 (.pointer (some (ad.add (k * 2)))) S0 ?_
         simp only [Act.put, Last2.s]
         refine tk 5 40 (.pointer (some (ad.add (k * 2)))) S0 ?_
         simp only [Act.put, Last2.s]
         refine tk 6 41 (.int .i64 s0) S0 ?_
         simp only [Act.put, Last2.s]
         refine Last2.last_one (i := 7) (o := { dst := some 42, op := .call { callee := .value (.func 98), args := #[.tmp 35, .tmp 41], argTypes := #[35, 3] }, type := _, pos := _, after := _, guard := _ }) (by kernel_rfl) rfl rfl (fun K hK => ?_)
         go_simp
         refine (l2Function_any A n c s0 hn _).mono ?_
         rw [hfi]
         rintro e wq ⟨rfl, rfl⟩
         refine hK.out _ _ (fun _ => S1) ?_
         clear hK K
         try simp only [Act.put, Last2.s]
         refine Last2.last_take (i := 8) (d := some 43) (v := .bool false) rfl rfl (by kernel_rfl) (by kernel_rfl) (by kernel_rfl) (fun _ _ _ h => h) rfl (by kernel_rfl) (by kernel_rfl) rfl ?_ S1 ?_
         ·(intro V hV; (try dsimp only at hV); go_simp; try with_reducible rfl)
         simp only [Act.put, Last2.s]
         refine Last2.last_take (i := 9) (d := some 44) (v := .bool false) rfl rfl (by kernel_rfl) (by kernel_rfl) (by kernel_rfl) (fun _ _ _ h => h) rfl (by kernel_rfl) (by kernel_rfl) rfl ?_ S1 ?_
         ·(intro V hV; (try dsimp only at hV); go_simp; try with_reducible rfl)
         simp only [Act.put, Last2.s]
         refine Last2.last_take (i := 10) (d := some 45) (v := .pointer (some ⟨w.heap.size + 1, 0, none⟩)) rfl rfl (by kernel_rfl) (by kernel_rfl) (by kernel_rfl) (fun _ _ _ h => h) rfl (by kernel_rfl) (by kernel_rfl) rfl ?_ S1 ?_
         ·(intro V hV; (try dsimp only at hV); go_simp; try with_reducible rfl)
         simp only [Act.put, Last2.s]
         refine Last2.last_take (i := 11) (d := some 46) (v := .slice (some ad) nj cj) rfl rfl (by kernel_rfl) (by kernel_rfl) (by kernel_rfl) (fun _ _ _ h => h) rfl (by kernel_rfl) (by kernel_rfl) rfl ?_ S1 ?_
         ·(intro V hV; (try dsimp only at hV); go_simp; try with_reducible rfl)
         simp only [Act.put, Last2.s]
         refine Last2.last_take (i := 12) (d := some 47) (v := .int .i64 k) rfl rfl (by kernel_rfl) (by kernel_rfl) (by kernel_rfl) (fun _ _ _ h => h) rfl (by kernel_rfl) (by kernel_rfl) rfl ?_ S1 ?_
         ·(intro V hV; (try dsimp only at hV); go_simp; try with_reducible rfl)
         simp only [Act.put, Last2.s]
         refine Last2.last_take (i := 13) (d := some 48) (v := .pointer (some (ad.add (k * 2)))) rfl rfl (by kernel_rfl) (by kernel_rfl) (by kernel_rfl) (fun _ _ _ h => h) rfl (by kernel_rfl) (by kernel_rfl) rfl ?_ S1 ?_
         ·(intro V hV; (try dsimp only at hV); go_simp; try with_reducible rfl)
         simp only [Act.put, Last2.s]
         refine Last2.last_take (i := 14) (d := some 49) (v := .pointer (some ⟨(ad.add (k * 2)).block, (ad.add (k * 2)).off + 1, none⟩)) rfl rfl (by kernel_rfl) (by kernel_rfl) (by kernel_rfl) (fun _ _ _ h => h) rfl (by kernel_rfl) (by kernel_rfl) rfl ?_ S1 ?_
         ·(intro V hV; (try dsimp only at hV); go_simp; try with_reducible rfl)
         simp only [Act.put, Last2.s]
         refine Last2.last_take (i := 15) (d := some 50) (v := .int .i64 s1) rfl rfl (by kernel_rfl) (by kernel_rfl) (by kernel_rfl) (fun _ _ _ h => h) rfl (by kernel_rfl) (by kernel_rfl) rfl ?_ S1 ?_
         ·(intro V hV; (try dsimp only at hV); go_simp; try with_reducible rfl)
         simp only [Act.put, Last2.s]
         refine Last2.last_one (i := 16) (o := { dst := some 51, op := .call { callee := .value (.func 78), args := #[.tmp 50], argTypes := #[3] }, type := _, pos := _, after := _, guard := _ }) (by kernel_rfl) rfl rfl (fun K hK => ?_)
         go_simp
         refine (l2Number_any s1 _).mono ?_
         rw [hgi]
         rintro e wq ⟨rfl, rfl⟩
         refine hK.out _ _ (fun _ => S1) ?_
         clear hK K
         try simp only [Act.put, Last2.s]
         refine Last2.last_take (i := 17) (d := some 52) (v := .bool true) rfl rfl (by kernel_rfl) (by kernel_rfl) (by kernel_rfl) (fun _ _ _ h => h) rfl (by kernel_rfl) (by kernel_rfl) rfl ?_ S1 ?_
         ·(intro V hV; (try dsimp only at hV); go_simp; try with_reducible rfl)
         simp only [Act.put, Last2.s]
         refine Last2.last_take (i := 18) (d := some 53) (v := .bool true) rfl rfl (by kernel_rfl) (by kernel_rfl) (by kernel_rfl) (fun _ _ _ h => h) rfl (by kernel_rfl) (by kernel_rfl) rfl ?_ S1 ?_
         ·(intro V hV; (try dsimp only at hV); go_simp; try with_reducible rfl)
         simp only [Act.put, Last2.s]
         refine Last2.last_done (by kernel_rfl) ?_ _
         go_wp2_with fail
         go_ret
         exact ⟨by rw [hsb.out]; rfl, B1.out.trans (bd2.mono B1.out.size)⟩
        | true =>
         have hnx := hid (all_next hal.out HS.out (show okJob p (s0, s1) = true by unfold okJob; rw [hf, hgi]; rfl))
         clear hf
         have HO := hid (fun (V : World) (b : Below w1.heap.size w1 V) => (show (fun V : World => V.cell? ⟨w.heap.size, 0, none⟩ = some (.slice A n c) ∧ V.cell? ⟨w.heap.size + 1, 0, none⟩ = some (.slice (some ad) nj cj) ∧ V.cell? (ad.add (k * 2)) = some (.int .i64 s0) ∧ V.cell? ⟨(ad.add (k * 2)).block, (ad.add (k * 2)).off + 1, none⟩ = some (.int .i64 s1)) V from ⟨(hX.out V b).1, (hX.out V b).2.1, (hJ.out V b).1, (hJ.out V b).2⟩))
         have bd : Below w1.heap.size w1 wr.drew := hb.drew
         have bd2 : Below w1.heap.size w1 (wr.drew.alloc (.cells #[.slice A n c] 35)) := bd.alloc bd.size _
         have S0 : (fun V : World => V.cell? ⟨w.heap.size, 0, none⟩ = some (.slice A n c) ∧ V.cell? ⟨w.heap.size + 1, 0, none⟩ = some (.slice (some ad) nj cj) ∧ V.cell? (ad.add (k * 2)) = some (.int .i64 s0) ∧ V.cell? ⟨(ad.add (k * 2)).block, (ad.add (k * 2)).off + 1, none⟩ = some (.int .i64 s1)) wr.drew := HO.out _ bd
         have S1 : (fun V : World => V.cell? ⟨w.heap.size, 0, none⟩ = some (.slice A n c) ∧ V.cell? ⟨w.heap.size + 1, 0, none⟩ = some (.slice (some ad) nj cj) ∧ V.cell? (ad.add (k * 2)) = some (.int .i64 s0) ∧ V.cell? ⟨(ad.add (k * 2)).block, (ad.add (k * 2)).off + 1, none⟩ = some (.int .i64 s1)) (wr.drew.alloc (.cells #[.slice A n c] 35)) := HO.out _ bd2
         go_wp2_with fail
         refine Last2.region_last [] (fun V : World => V.cell? ⟨w.heap.size, 0, none⟩ = some (.slice A n c) ∧ V.cell? ⟨w.heap.size + 1, 0, none⟩ = some (.slice (some ad) nj cj) ∧ V.cell? (ad.add (k * 2)) = some (.int .i64 s0) ∧ V.cell? ⟨(ad.add (k * 2)).block, (ad.add (k * 2)).off + 1, none⟩ = some (.int .i64 s1)) (by kernel_rfl) ?_
         refine tk 0 35 (.agg #[.slice A n c]) S0 ?_
         simp only [Act.put, Last2.s]
         refine tk 1 36 (.pointer (some ⟨w.heap.size + 1, 0, none⟩)) S0 ?_
         simp only [Act.put, Last2.s]
         refine tk 2 37 (.slice (some ad) nj cj) S0 ?_
         simp only [Act.put, Last2.s]
         refine tk 3 38 (.int .i64 k) S0 ?_
         simp only [Act.put, Last2.s]
         refine tk 4 39 (.pointer (some (ad.add (k * 2)))) S0 ?_
         simp only [Act.put, Last2.s]
         refine tk 5 40 (.pointer (some (ad.add (k * 2)))) S0 ?_
         simp only [Act.put, Last2.s]
         refine tk 6 41 (.int .i64 s0) S0 ?_
         simp only [Act.put, Last2.s]
         refine Last2.last_one (i := 7) (o := { dst := some 42, op := .call { callee := .value (.func 98), args := #[.tmp 35, .tmp 41], argTypes := #[35, 3] }, type := _, pos := _, after := _, guard := _ }) (by kernel_rfl) rfl rfl (fun K hK => ?_)
         go_simp
         refine (l2Function_any A n c s0 hn _).mono ?_
         rw [hfi]
         rintro e wq ⟨rfl, rfl⟩
         refine hK.out _ _ (fun _ => S1) ?_
         clear hK K
         try simp only [Act.put, Last2.s]
         refine Last2.last_take (i := 8) (d := some 43) (v := .bool false) rfl rfl (by kernel_rfl) (by kernel_rfl) (by kernel_rfl) (fun _ _ _ h => h) rfl (by kernel_rfl) (by kernel_rfl) rfl ?_ S1 ?_
         ·(intro V hV; (try dsimp only at hV); go_simp; try with_reducible rfl)
         simp only [Act.put, Last2.s]
         refine Last2.last_take (i := 9) (d := some 44) (v := .bool false) rfl rfl (by kernel_rfl) (by kernel_rfl) (by kernel_rfl) (fun _ _ _ h => h) rfl (by kernel_rfl) (by kernel_rfl) rfl ?_ S1 ?_
         ·(intro V hV; (try dsimp only at hV); go_simp; try with_reducible rfl)
         simp only [Act.put, Last2.s]
         refine Last2.last_take (i := 10) (d := some 45) (v := .pointer (some ⟨w.heap.size + 1, 0, none⟩)) rfl rfl (by kernel_rfl) (by kernel_rfl) (by kernel_rfl) (fun _ _ _ h => h) rfl (by kernel_rfl) (by kernel_rfl) rfl ?_ S1 ?_
         ·(intro V hV; (try dsimp only at hV); go_simp; try with_reducible rfl)
         simp only [Act.put, Last2.s]
         refine Last2.last_take (i := 11) (d := some 46) (v := .slice (some ad) nj cj) rfl rfl (by kernel_rfl) (by kernel_rfl) (by kernel_rfl) (fun _ _ _ h => h) rfl (by kernel_rfl) (by kernel_rfl) rfl ?_ S1 ?_
         ·(intro V hV; (try dsimp only at hV); go_simp; try with_reducible rfl)
         simp only [Act.put, Last2.s]
         refine Last2.last_take (i := 12) (d := some 47) (v := .int .i64 k) rfl rfl (by kernel_rfl) (by kernel_rfl) (by kernel_rfl) (fun _ _ _ h => h) rfl (by kernel_rfl) (by kernel_rfl) rfl ?_ S1 ?_
         ·(intro V hV; (try dsimp only at hV); go_simp; try with_reducible rfl)
         simp only [Act.put, Last2.s]
         refine Last2.last_take (i := 13) (d := some 48) (v := .pointer (some (ad.add (k * 2)))) rfl rfl (by kernel_rfl) (by kernel_rfl) (by kernel_rfl) (fun _ _ _ h => h) rfl (by kernel_rfl) (by kernel_rfl) rfl ?_ S1 ?_
         ·(intro V hV; (try dsimp only at hV); go_simp; try with_reducible rfl)
         simp only [Act.put, Last2.s]
         refine Last2.last_take (i := 14) (d := some 49) (v := .pointer (some ⟨(ad.add (k * 2)).block, (ad.add (k * 2)).off + 1, none⟩)) rfl rfl (by kernel_rfl) (by kernel_rfl) (by kernel_rfl) (fun _ _ _ h => h) rfl (by kernel_rfl) (by kernel_rfl) rfl ?_ S1 ?_
         ·(intro V hV; (try dsimp only at hV); go_simp; try with_reducible rfl)
         simp only [Act.put, Last2.s]
         refine Last2.last_take (i := 15) (d := some 50) (v := .int .i64 s1) rfl rfl (by kernel_rfl) (by kernel_rfl) (by kernel_rfl) (fun _ _ _ h => h) rfl (by kernel_rfl) (by kernel_rfl) rfl ?_ S1 ?_
         ·(intro V hV; (try dsimp only at hV); go_simp; try with_reducible rfl)
         simp only [Act.put, Last2.s]
         refine Last2.last_one (i := 16) (o := { dst := some 51, op := .call { callee := .value (.func 78), args := #[.tmp 50], argTypes := #[3] }, type := _, pos := _, after := _, guard := _ }) (by kernel_rfl) rfl rfl (fun K hK => ?_)
         go_simp
         refine (l2Number_any s1 _).mono ?_
         rw [hgi]
         rintro e wq ⟨rfl, rfl⟩
         refine hK.out _ _ (fun _ => S1) ?_
         clear hK K
         try simp only [Act.put, Last2.s]
         refine Last2.last_take (i := 17) (d := some 52) (v := .bool false) rfl rfl (by kernel_rfl) (by kernel_rfl) (by kernel_rfl) (fun _ _ _ h => h) rfl (by kernel_rfl) (by kernel_rfl) rfl ?_ S1 ?_
         ·(intro V hV; (try dsimp only at hV); go_simp; try with_reducible rfl)
         simp only [Act.put, Last2.s]
         refine Last2.last_take (i := 18) (d := some 53) (v := .bool false) rfl rfl (by kernel_rfl) (by kernel_rfl) (by kernel_rfl) (fun _ _ _ h => h) rfl (by kernel_rfl) (by kernel_rfl) rfl ?_ S1 ?_
         ·(intro V hV; (try dsimp only at hV); go_simp; try with_reducible rfl)
         simp only [Act.put, Last2.s]
         refine Last2.last_done (by kernel_rfl) ?_ _
         go_wp2_with fail
         go_roundw
         case rel => exact ⟨k + 1, by omega, by go_num, hnx, bd2⟩
         case measure => simp [intOf]; omega
      ·obtain rfl : k = nj := by omega
       have AJ := hid (all_end hal.out LJ.out)
       have hB0 := hid hb
       clear hal hb bw
       go_wp2_with fail
       go_loopw [6] (fun i wx => ∃ q : Nat, q ≤ nh ∧ i = .int .i64 q ∧ Hid ((hs.take q).all (isFn p) = true) ∧ Below w1.heap.size w1 wx) (fun i _ => nh - (intOf i).toNat)
       case atStart => exact ⟨0, Nat.zero_le _, rfl, hid rfl, hB0.out⟩
       case round =>
        obtain ⟨q, hq, rfl, hal, hb⟩ := hrel
        have bw := B1.out.trans (hb.mono B1.out.size)
        obtain ⟨-, -, zh⟩ := hX.out wr hb
        by_cases hlt : q < nh
        ·obtain ⟨s, hs⟩ : ∃ s, hs[q]? = some s := ⟨_, List.getElem?_eq_getElem (by rw [LH.out]; exact hlt)⟩
         have HS := hid hs
         obtain ⟨ad, had, -⟩ := (HRD.out wr bw).hooks q _ hs
         subst had
         have hJ := hid (fun (V : World) (b : Below w1.heap.size w1 V) => (show V.cell? (ad.add q) = some (.int .i64 s) from by
          obtain ⟨ad', e, -, h0⟩ := (HRD.out V (B1.out.trans (b.mono B1.out.size))).hooks q _ HS.out
          cases e
          exact h0))
         clear hs
         cases hf : isFn p s with
         | false =>
          have hsb := hid (BS.out _ _ AJ.out (all_no HS.out hf))
          have hfi := (HIN.out s).symm.trans hf
          clear hf
          have HO := hid (fun (V : World) (b : Below w1.heap.size w1 V) => (show (fun V : World => V.cell? ⟨w.heap.size, 0, none⟩ = some (.slice A n c) ∧ V.cell? ⟨w.heap.size + 1, 1, none⟩ = some (.slice (some ad) nh ch) ∧ V.cell? (ad.add q) = some (.int .i64 s)) V from ⟨(hX.out V b).1, (hX.out V b).2.2, hJ.out V b⟩))
          have bd : Below w1.heap.size w1 wr.drew := hb.drew
          have bd2 : Below w1.heap.size w1 (wr.drew.alloc (.cells #[.slice A n c] 35)) := bd.alloc bd.size _
          have S0 : (fun V : World => V.cell? ⟨w.heap.size, 0, none⟩ = some (.slice A n c) ∧ V.cell? ⟨w.heap.size + 1, 1, none⟩ = some (.slice (some ad) nh ch) ∧ V.cell? (ad.add q) = some (.int .i64 s)) wr.drew := HO.out _ bd
          have S1 : (fun V : World => V.cell? ⟨w.heap.size, 0, none⟩ = some (.slice A n c) ∧ V.cell? ⟨w.heap.size + 1, 1, none⟩ = some (.slice (some ad) nh ch) ∧ V.cell? (ad.add q) = some (.int .i64 s)) (wr.drew.alloc (.cells #[.slice A n c] 35)) := HO.out _ bd2
          go_wp2_with fail
          refine Last2.region_last [] (fun V : World => V.cell? ⟨w.heap.size, 0, none⟩ = some (.slice A n c) ∧ V.cell? ⟨w.heap.size + 1, 1, none⟩ = some (.slice (some ad) nh ch) ∧ V.cell? (ad.add q) = some (.int .i64 s)) (by kernel_rfl) ?_
          refine tk 0 61 (.agg #[.slice A n c]) S0 ?_
          simp only [Act.put, Last2.s]
          refine tk 1 62 (.pointer (some ⟨w.heap.size + 1, 1, none⟩)) S0 ?_
          simp only [Act.put, Last2.s]
          refine tk 2 63 (.slice (some ad) nh ch) S0 ?_
          simp only [Act.put, Last2.s]
          refine tk 3 64 (.int .i64 q) S0 ?_
          simp only [Act.put, Last2.s]
          refine tk 4 65 (.pointer (some (ad.add q))) S0 ?_
          simp only [Act.put, Last2.s]
          refine tk 5 66 (.int .i64 s) S0 ?_
          simp only [Act.put, Last2.s]
          refine Last2.last_one (i := 6) (o := { dst := some 67, op := .call { callee := .value (.func 98), args := #[.tmp 61, .tmp 66], argTypes := #[35, 3] }, type := _, pos := _, after := _, guard := _ }) (by kernel_rfl) rfl rfl (fun K hK => ?_)
          go_simp
          refine (l2Function_any A n c s hn _).mono ?_
          rw [hfi]
          rintro e wq ⟨rfl, rfl⟩
          refine hK.out _ _ (fun _ => S1) ?_
          clear hK K
          try simp only [Act.put, Last2.s]
          refine Last2.last_take (i := 7) (d := some 68) (v := .bool true) rfl rfl (by kernel_rfl) (by kernel_rfl) (by kernel_rfl) (fun _ _ _ h => h) rfl (by kernel_rfl) (by kernel_rfl) rfl ?_ S1 ?_
          ·(intro V hV; (try dsimp only at hV); go_simp; try with_reducible rfl)
          simp only [Act.put, Last2.s]
          refine Last2.last_done (by kernel_rfl) ?_ _
          go_wp2_with fail
          go_ret
          exact ⟨by rw [hsb.out]; rfl, B1.out.trans (bd2.mono B1.out.size)⟩
         | true =>
          have hnx := hid (all_next hal.out HS.out hf)
          have hfi := (HIN.out s).symm.trans hf
          clear hf
          have HO := hid (fun (V : World) (b : Below w1.heap.size w1 V) => (show (fun V : World => V.cell? ⟨w.heap.size, 0, none⟩ = some (.slice A n c) ∧ V.cell? ⟨w.heap.size + 1, 1, none⟩ = some (.slice (some ad) nh ch) ∧ V.cell? (ad.add q) = some (.int .i64 s)) V from ⟨(hX.out V b).1, (hX.out V b).2.2, hJ.out V b⟩))
          have bd : Below w1.heap.size w1 wr.drew := hb.drew
          have bd2 : Below w1.heap.size w1 (wr.drew.alloc (.cells #[.slice A n c] 35)) := bd.alloc bd.size _
          have S0 : (fun V : World => V.cell? ⟨w.heap.size, 0, none⟩ = some (.slice A n c) ∧ V.cell? ⟨w.heap.size + 1, 1, none⟩ = some (.slice (some ad) nh ch) ∧ V.cell? (ad.add q) = some (.int .i64 s)) wr.drew := HO.out _ bd
          have S1 : (fun V : World => V.cell? ⟨w.heap.size, 0, none⟩ = some (.slice A n c) ∧ V.cell? ⟨w.heap.size + 1, 1, none⟩ = some (.slice (some ad) nh ch) ∧ V.cell? (ad.add q) = some (.int .i64 s)) (wr.drew.alloc (.cells #[.slice A n c] 35)) := HO.out _ bd2
          go_wp2_with fail
          refine Last2.region_last [] (fun V : World => V.cell? ⟨w.heap.size, 0, none⟩ = some (.slice A n c) ∧ V.cell? ⟨w.heap.size + 1, 1, none⟩ = some (.slice (some ad) nh ch) ∧ V.cell? (ad.add q) = some (.int .i64 s)) (by kernel_rfl) ?_
          refine tk 0 61 (.agg #[.slice A n c]) S0 ?_
          simp only [Act.put, Last2.s]
          refine tk 1 62 (.pointer (some ⟨w.heap.size + 1, 1, none⟩)) S0 ?_
          simp only [Act.put, Last2.s]
          refine tk 2 63 (.slice (some ad) nh ch) S0 ?_
          simp only [Act.put, Last2.s]
          refine tk 3 64 (.int .i64 q) S0 ?_
          simp only [Act.put, Last2.s]
          refine tk 4 65 (.pointer (some (ad.add q))) S0 ?_
          simp only [Act.put, Last2.s]
          refine tk 5 66 (.int .i64 s) S0 ?_
          simp only [Act.put, Last2.s]
          refine Last2.last_one (i := 6) (o := { dst := some 67, op := .call { callee := .value (.func 98), args := #[.tmp 61, .tmp 66], argTypes := #[35, 3] }, type := _, pos := _, after := _, guard := _ }) (by kernel_rfl) rfl rfl (fun K hK => ?_)
          go_simp
          refine (l2Function_any A n c s hn _).mono ?_
          rw [hfi]
          rintro e wq ⟨rfl, rfl⟩
          refine hK.out _ _ (fun _ => S1) ?_
          clear hK K
          try simp only [Act.put, Last2.s]
          refine Last2.last_take (i := 7) (d := some 68) (v := .bool false) rfl rfl (by kernel_rfl) (by kernel_rfl) (by kernel_rfl) (fun _ _ _ h => h) rfl (by kernel_rfl) (by kernel_rfl) rfl ?_ S1 ?_
          ·(intro V hV; (try dsimp only at hV); go_simp; try with_reducible rfl)
          simp only [Act.put, Last2.s]
          refine Last2.last_done (by kernel_rfl) ?_ _
          go_wp2_with fail
          go_roundw
          case rel => exact ⟨q + 1, by omega, by go_num, hnx, bd2⟩
          case measure => simp [intOf]; omega
        ·obtain rfl : q = nh := by omega
         have hsb := hid (BS.out _ _ AJ.out (all_end hal.out LH.out))
         have HB := hid hb
         clear hal hb bw
         go_wp2_with fail
         go_ret
         exact ⟨by rw [hsb.out]; rfl, B1.out.trans (HB.out.mono B1.out.size)⟩
   ·have d1 : decide ((nj : Int) > 12) = false := by simp; omega
    have d2 : decide ((nh : Int) > 12) = true := by simp; omega
    have hs' := hid (show okSes p js hs mode = false by unfold okSes sesB; rw [lh, decide_eq_false k2]; simp)
    rw [ok] at hP
    clear ok
    go_enter Try.func61, Try.ntmps61
    go_upto_region 1 with fail
    change (fun V => Code.wp _ _ _ _ V) _
    refine gen_world (X := fun V => Blk V w.heap.size 35 #[.slice A n c] ∧ Blk V (w.heap.size + 1) 39 #[.slice Aj nj cj, .slice Ah nh ch, .int .i64 mode] ∧ Below w.heap.size w V) ⟨heap2_0 w _ _, heap2_1 w _ _, h2.out⟩ ?_
    rintro w1 ⟨x1, x2, b1⟩
    have z1 : w1.cell? ⟨w.heap.size, 0, none⟩ = some (.slice A n c) := x1.cells 0
    have z2 : w1.cell? ⟨w.heap.size + 1, 0, none⟩ = some (.slice Aj nj cj) := x2.cells 0
    have z3 : w1.cell? ⟨w.heap.size + 1, 1, none⟩ = some (.slice Ah nh ch) := x2.cells 1
    have z4 : w1.cell? ⟨w.heap.size + 1, 2, none⟩ = some (.int .i64 mode) := x2.cells 2
    have l1 := x2.lt
    have X1 := hid x1
    have X2 := hid x2
    have B1 := hid b1
    clear x1 x2 b1
    go_wp2_with fail
    refine (hP.out _ B1.out).mono ?_
    rintro e wp ⟨rfl, bp⟩
    have y2 : wp.cell? ⟨w.heap.size + 1, 0, none⟩ = some (.slice Aj nj cj) := (X2.out.below bp X2.out.lt).cells 0
    have y3 : wp.cell? ⟨w.heap.size + 1, 1, none⟩ = some (.slice Ah nh ch) := (X2.out.below bp X2.out.lt).cells 1
    have y4 : wp.cell? ⟨w.heap.size + 1, 2, none⟩ = some (.int .i64 mode) := (X2.out.below bp X2.out.lt).cells 2
    have BB := hid (B1.out.trans (bp.mono B1.out.size))
    clear z1 z2 z3 z4 bp
    go_wp2_with fail
    go_ret
    exact ⟨by rw [hs'.out]; rfl, BB.out⟩
  ·have d1 : decide ((nj : Int) > 12) = true := by simp; omega
   have hs' := hid (show okSes p js hs mode = false by unfold okSes sesB; rw [lj, decide_eq_false k1]; simp)
   rw [ok] at hP
   clear ok
   go_enter Try.func61, Try.ntmps61
   go_upto_region 1 with fail
   change (fun V => Code.wp _ _ _ _ V) _
   refine gen_world (X := fun V => Blk V w.heap.size 35 #[.slice A n c] ∧ Blk V (w.heap.size + 1) 39 #[.slice Aj nj cj, .slice Ah nh ch, .int .i64 mode] ∧ Below w.heap.size w V) ⟨heap2_0 w _ _, heap2_1 w _ _, h2.out⟩ ?_
   rintro w1 ⟨x1, x2, b1⟩
   have z1 : w1.cell? ⟨w.heap.size, 0, none⟩ = some (.slice A n c) := x1.cells 0
   have z2 : w1.cell? ⟨w.heap.size + 1, 0, none⟩ = some (.slice Aj nj cj) := x2.cells 0
   have z3 : w1.cell? ⟨w.heap.size + 1, 1, none⟩ = some (.slice Ah nh ch) := x2.cells 1
   have z4 : w1.cell? ⟨w.heap.size + 1, 2, none⟩ = some (.int .i64 mode) := x2.cells 2
   have l1 := x2.lt
   have X1 := hid x1
   have X2 := hid x2
   have B1 := hid b1
   clear x1 x2 b1
   go_wp2_with fail
   refine (hP.out _ B1.out).mono ?_
   rintro e wp ⟨rfl, bp⟩
   have y2 : wp.cell? ⟨w.heap.size + 1, 0, none⟩ = some (.slice Aj nj cj) := (X2.out.below bp X2.out.lt).cells 0
   have y3 : wp.cell? ⟨w.heap.size + 1, 1, none⟩ = some (.slice Ah nh ch) := (X2.out.below bp X2.out.lt).cells 1
   have y4 : wp.cell? ⟨w.heap.size + 1, 2, none⟩ = some (.int .i64 mode) := (X2.out.below bp X2.out.lt).cells 2
   have BB := hid (B1.out.trans (bp.mono B1.out.size))
   clear z1 z2 z3 z4 bp
   go_wp2_with fail
   go_ret
   exact ⟨by rw [hs'.out]; rfl, BB.out⟩
set_option maxRecDepth 100000 in
set_option maxHeartbeats 1000000 in
theorem isesS_any (lo n c nj nh cj ch : Nat) (A Aj Ah : Option Addr) (p : Pg) (js : List Pr) (hs : List Int) (mode : Int) (hn : n ≤ 9223372036854775807) (hl : p.length = n) (hsm : Small p 9223372036854775807) (hj : nj ≤ 9223372036854775807) (lj : js.length = nj) (hh : nh ≤ 9223372036854775807) (lh : hs.length = nh) (w : World) (ho : OwnP w lo (.slice A n c) p) (hrs : RdSe w w.heap.size Aj Ah js hs) :
  Calls Try.prog 17 #[.agg #[.slice A n c], .agg #[.slice Aj nj cj, .slice Ah nh ch, .int .i64 mode]] w (BolR (isSesR p js hs mode) w) := by
 have hP := hid (fun W (h : Below w.heap.size w W) => PrgS.l2Program_any w.heap.size A n c p hn hl hsm W (ho.rd.below h) h.size)
 have hS := hid (fun W (h : Below w.heap.size w W) => l10Ses_any w.heap.size n c nj nh cj ch A Aj Ah p js hs mode hn hl hsm hj lj hh lh W (ho.rd.below h) (hrs.below h) h.size)
 have h2 := hid (App.Bl.alloc (App.Bl.alloc (App.Bl.refl w) (.cells #[.slice A n c] 35)) (.cells #[.slice Aj nj cj, .slice Ah nh ch, .int .i64 mode] 39))
 clear ho hrs
 cases ok : okProg p with
 | false =>
  have hs' := hid (show isSesR p js hs mode = (false, false) by unfold isSesR; rw [ok]; rfl)
  rw [ok] at hP
  clear ok
  go_enter Try.func17, Try.ntmps17
  go_upto_region 1 with fail
  change (fun V => Code.wp _ _ _ _ V) _
  refine gen_world (X := fun V => Blk V w.heap.size 35 #[.slice A n c] ∧ Blk V (w.heap.size + 1) 39 #[.slice Aj nj cj, .slice Ah nh ch, .int .i64 mode] ∧ Below w.heap.size w V) ⟨heap2_0 w _ _, heap2_1 w _ _, h2.out⟩ ?_
  rintro w1 ⟨x1, x2, b1⟩
  have z1 : w1.cell? ⟨w.heap.size, 0, none⟩ = some (.slice A n c) := x1.cells 0
  have z2 : w1.cell? ⟨w.heap.size + 1, 0, none⟩ = some (.slice Aj nj cj) := x2.cells 0
  have z3 : w1.cell? ⟨w.heap.size + 1, 1, none⟩ = some (.slice Ah nh ch) := x2.cells 1
  have z4 : w1.cell? ⟨w.heap.size + 1, 2, none⟩ = some (.int .i64 mode) := x2.cells 2
  have l1 := x2.lt
  have X1 := hid x1
  have X2 := hid x2
  have B1 := hid b1
  clear x1 x2 b1
  go_wp2_with fail
  refine (hP.out _ B1.out).mono ?_
  rintro e w2 ⟨rfl, b2⟩
  go_wp2_with fail
  go_ret2
  exact ⟨by rw [hs'.out] <;> rfl, B1.out.trans (b2.mono B1.out.size)⟩
 | true =>
  have hs' := hid (show isSesR p js hs mode = (okSes p js hs mode, true) by unfold isSesR; rw [ok]; rfl)
  rw [ok] at hP
  clear ok
  generalize okSes p js hs mode = r at *
  go_enter Try.func17, Try.ntmps17
  go_upto_region 1 with fail
  change (fun V => Code.wp _ _ _ _ V) _
  refine gen_world (X := fun V => Blk V w.heap.size 35 #[.slice A n c] ∧ Blk V (w.heap.size + 1) 39 #[.slice Aj nj cj, .slice Ah nh ch, .int .i64 mode] ∧ Below w.heap.size w V) ⟨heap2_0 w _ _, heap2_1 w _ _, h2.out⟩ ?_
  rintro w1 ⟨x1, x2, b1⟩
  have z1 : w1.cell? ⟨w.heap.size, 0, none⟩ = some (.slice A n c) := x1.cells 0
  have z2 : w1.cell? ⟨w.heap.size + 1, 0, none⟩ = some (.slice Aj nj cj) := x2.cells 0
  have z3 : w1.cell? ⟨w.heap.size + 1, 1, none⟩ = some (.slice Ah nh ch) := x2.cells 1
  have z4 : w1.cell? ⟨w.heap.size + 1, 2, none⟩ = some (.int .i64 mode) := x2.cells 2
  have l1 := x2.lt
  have X1 := hid x1
  have X2 := hid x2
  have B1 := hid b1
  clear x1 x2 b1
  go_wp2_with fail
  refine (hP.out _ B1.out).mono ?_
  rintro e w2 ⟨rfl, b2⟩
  have B2 := hid (B1.out.trans (b2.mono B1.out.size))
  have y1 : w2.cell? ⟨w.heap.size, 0, none⟩ = some (.slice A n c) := (X1.out.below b2 X1.out.lt).cells 0
  have Y2 := X2.out.below b2 X2.out.lt
  have y2 : w2.cell? ⟨w.heap.size + 1, 0, none⟩ = some (.slice Aj nj cj) := Y2.cells 0
  have y3 : w2.cell? ⟨w.heap.size + 1, 1, none⟩ = some (.slice Ah nh ch) := Y2.cells 1
  have y4 : w2.cell? ⟨w.heap.size + 1, 2, none⟩ = some (.int .i64 mode) := Y2.cells 2
  clear z1 z2 z3 z4 b2 Y2 X1 X2
  go_wp2_with fail
  refine (hS.out _ B2.out).mono ?_
  rintro e w3 ⟨rfl, b3⟩
  go_wp2_with fail
  go_ret2
  exact ⟨by rw [hs'.out] <;> rfl, B2.out.trans (b3.mono B2.out.size)⟩
end Go.Proofs.Ythejnpignlhgiaa.Seg
-- squeezed
