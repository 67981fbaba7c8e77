import Derived.Test.YthejnpignlhgiaaSey
import Derived.Test.YthejnpignlhgiaaSeg
import Derived.Test.YthejnpignlhgiaaSiw
set_option linter.all false
namespace Go.Proofs.Ythejnpignlhgiaa.Sew
open Lib (hid)
open Go.ChangeShapes Go.WideShapes Go.ChangeAt Go.RowKit
open PL Mem To Srun Sst IntsP RowA OwnS AskP Res Swhole Sout StS Frp Sep Sit SemP Sei Seg Sez Sey Siw LawN LawI
theorem seen_field2 (a b c d e : Value) (w : World) : (Instr.field 110 (.agg #[a, b, c, d, e]) 2).run Try.prog w = .ok c w := by kernel_rfl
theorem seen_field3 (a b c d e : Value) (w : World) : (Instr.field 110 (.agg #[a, b, c, d, e]) 3).run Try.prog w = .ok d w := by kernel_rfl
theorem seen_field4 (a b c d e : Value) (w : World) : (Instr.field 110 (.agg #[a, b, c, d, e]) 4).run Try.prog w = .ok e w := by kernel_rfl
set_option maxRecDepth 100000 in
set_option maxHeartbeats 1000000 in
theorem l10Ask_any (lo n c nj nh cj ch : Nat) (A Aj Ah : Option Addr) (p : Pg) (js : List Pr) (hs : List Int) (mode fuel : Int) (hn : n ≤ 9223372036854775807) (hl : p.length = n) (hsm : Small p 9223372036854775807) (hj : nj ≤ 9223372036854775807) (lj : js.length = nj) (hh : nh ≤ 9223372036854775807) (lh : hs.length = nh) (w : World) (ho : OwnP w lo (.slice A n c) p) (hrs : RdSe w w.heap.size Aj Ah js hs) :
  Calls Try.prog 86 #[.agg #[.slice A n c], .agg #[.slice Aj nj cj, .slice Ah nh ch, .int .i64 mode], .int .i64 fuel] w fun e w' => e = .returned (.bool (askSes p js hs mode fuel)) ∧ Below w.heap.size w w' := by
 have hS := hid (fun W (h : Below w.heap.size w W) => l10Ses_any w.heap.size n c nj nh cj ch A Aj Ah p js hs mode hn hl hsm hj lj hh lh W (ho.rd.below h) (hrs.below h) h.size)
 have h2 := hid (App.Bl.alloc (App.Bl.alloc (App.Bl.refl w) (.cells #[.slice A n c] 35)) (.cells #[.slice Aj nj cj, .slice Ah nh ch, .int .i64 mode] 39))
 have hI := hid (fun W => StpS.l1In_any fuel 0 200 W)
 clear ho hrs hsm
 cases ok : okSes p js hs mode with
 | false =>
  have HS := hid (show askSes p js hs mode fuel = false by unfold askSes; rw [ok]; rfl)
  rw [ok] at hS
  clear ok
  go_enter Try.func86, Try.ntmps86
  go_upto_region 1 with fail
  change (fun V => Code.wp _ _ _ _ V) _
  refine gen_world (X := fun V => Blk V w.heap.size 35 #[.slice A n c] ∧ Blk V (w.heap.size + 1) 39 #[.slice Aj nj cj, .slice Ah nh ch, .int .i64 mode] ∧ Below w.heap.size w V) ⟨heap2_0 w _ _, heap2_1 w _ _, h2.out⟩ ?_
  rintro w1 ⟨x1, x2, b1⟩
  have z1 : w1.cell? ⟨w.heap.size, 0, none⟩ = some (.slice A n c) := x1.cells 0
  have z2 : w1.cell? ⟨w.heap.size + 1, 0, none⟩ = some (.slice Aj nj cj) := x2.cells 0
  have z3 : w1.cell? ⟨w.heap.size + 1, 1, none⟩ = some (.slice Ah nh ch) := x2.cells 1
  have z4 : w1.cell? ⟨w.heap.size + 1, 2, none⟩ = some (.int .i64 mode) := x2.cells 2
  have l1 := x2.lt
  have X1 := hid x1
  have X2 := hid x2
  have B1 := hid b1
  clear x1 x2 b1
  go_wp2_with fail
  refine (hS.out _ B1.out).mono ?_
  rintro e w2 ⟨rfl, b2⟩
  go_wp2_with fail
  go_ret
  exact ⟨by rw [HS.out]; rfl, B1.out.trans (b2.mono B1.out.size)⟩
 | true =>
  have HS := hid (show askSes p js hs mode fuel = StpS.btw fuel 0 200 by unfold askSes; rw [ok]; rfl)
  rw [ok] at hS
  clear ok
  generalize StpS.btw fuel 0 200 = b at *
  go_enter Try.func86, Try.ntmps86
  go_upto_region 1 with fail
  change (fun V => Code.wp _ _ _ _ V) _
  refine gen_world (X := fun V => Blk V w.heap.size 35 #[.slice A n c] ∧ Blk V (w.heap.size + 1) 39 #[.slice Aj nj cj, .slice Ah nh ch, .int .i64 mode] ∧ Below w.heap.size w V) ⟨heap2_0 w _ _, heap2_1 w _ _, h2.out⟩ ?_
  rintro w1 ⟨x1, x2, b1⟩
  have z1 : w1.cell? ⟨w.heap.size, 0, none⟩ = some (.slice A n c) := x1.cells 0
  have z2 : w1.cell? ⟨w.heap.size + 1, 0, none⟩ = some (.slice Aj nj cj) := x2.cells 0
  have z3 : w1.cell? ⟨w.heap.size + 1, 1, none⟩ = some (.slice Ah nh ch) := x2.cells 1
  have z4 : w1.cell? ⟨w.heap.size + 1, 2, none⟩ = some (.int .i64 mode) := x2.cells 2
  have l1 := x2.lt
  have X1 := hid x1
  have X2 := hid x2
  have B1 := hid b1
  clear x1 x2 b1
  go_wp2_with fail
  refine (hS.out _ B1.out).mono ?_
  rintro e w2 ⟨rfl, b2⟩
  go_wp2_with fail
  refine (hI.out _).mono ?_
  rintro e w3 ⟨rfl, rfl⟩
  go_wp2_with fail
  go_ret
  exact ⟨by rw [HS.out] <;> rfl, B1.out.trans (b2.mono B1.out.size)⟩
set_option maxRecDepth 100000 in
set_option maxHeartbeats 1000000 in
theorem scodeS_any (lo n c nj nh cj ch : Nat) (A Aj Ah : Option Addr) (p : Pg) (js : List Pr) (hs : List Int) (mode fuel : Int) (hn : n ≤ 9223372036854775807) (hl : p.length = n) (hsm : Small p 9223372036854775807) (hj : nj ≤ 9223372036854775807) (lj : js.length = nj) (hh : nh ≤ 9223372036854775807) (lh : hs.length = nh) (w : World) (ho : OwnP w lo (.slice A n c) p) (hrs : RdSe w w.heap.size Aj Ah js hs) :
  Calls Try.prog 41 #[.agg #[.slice A n c], .agg #[.slice Aj nj cj, .slice Ah nh ch, .int .i64 mode], .int .i64 fuel] w (NumR (scodeR p js hs mode fuel) w) := by
 have hq := hid (fun W (h : Below w.heap.size w W) => l10Ask_any lo n c nj nh cj ch A Aj Ah p js hs mode fuel hn hl hsm hj lj hh lh W (ho.below h) ((hrs.below h).more h.size))
 have h2 := hid (App.Bl.alloc (App.Bl.alloc (App.Bl.refl w) (.cells #[.slice A n c] 35)) (.cells #[.slice Aj nj cj, .slice Ah nh ch, .int .i64 mode] 39))
 cases hk : askSes p js hs mode fuel with
 | false =>
  have HR := hid (show scodeR p js hs mode fuel = (0, false) by unfold scodeR; rw [hk]; rfl)
  rw [hk] at hq
  clear hk ho hrs hsm
  go_enter Try.func41, Try.ntmps41
  go_upto_region 1 with fail
  change (fun V => Code.wp _ _ _ _ V) _
  refine gen_world (X := fun V => Blk V w.heap.size 35 #[.slice A n c] ∧ Blk V (w.heap.size + 1) 39 #[.slice Aj nj cj, .slice Ah nh ch, .int .i64 mode] ∧ Below w.heap.size w V) ⟨heap2_0 w _ _, heap2_1 w _ _, h2.out⟩ ?_
  rintro w1 ⟨x1, x2, b1⟩
  have z1 : w1.cell? ⟨w.heap.size, 0, none⟩ = some (.slice A n c) := x1.cells 0
  have z2 : w1.cell? ⟨w.heap.size + 1, 0, none⟩ = some (.slice Aj nj cj) := x2.cells 0
  have z3 : w1.cell? ⟨w.heap.size + 1, 1, none⟩ = some (.slice Ah nh ch) := x2.cells 1
  have z4 : w1.cell? ⟨w.heap.size + 1, 2, none⟩ = some (.int .i64 mode) := x2.cells 2
  have l1 := x2.lt
  have X1 := hid x1
  have X2 := hid x2
  have B1 := hid b1
  clear x1 x2 b1
  go_wp2_with fail
  refine (hq.out _ B1.out).mono ?_
  rintro e w2 ⟨rfl, b2⟩
  have HB2 := hid (B1.out.trans (b2.mono B1.out.size))
  clear b2
  go_wp2_with fail
  go_ret2
  exact ⟨by rw [HR.out] <;> rfl, HB2.out⟩
 | true =>
  have hn6 := okProg_small (ses_parts hk).1
  have hru := hid (fun W (h : Below w.heap.size w W) => l10Run_any lo n c nj nh cj ch A Aj Ah p js hs mode fuel hl (hn6.2.mono (by omega)) (by omega) lj lh hk W (ho.below h) ((hrs.below h).more h.size))
  have HR := hid (show scodeR p js hs mode fuel = ((sesS p fuel mode js hs).code, true) by unfold scodeR; rw [if_pos hk])
  rw [hk] at hq
  clear hk ho hrs hsm hn6
  generalize sesS p fuel mode js hs = s at *
  unfold Sey.RunR at hru
  go_enter Try.func41, Try.ntmps41
  go_upto_region 1 with fail
  change (fun V => Code.wp _ _ _ _ V) _
  refine gen_world (X := fun V => Blk V w.heap.size 35 #[.slice A n c] ∧ Blk V (w.heap.size + 1) 39 #[.slice Aj nj cj, .slice Ah nh ch, .int .i64 mode] ∧ Below w.heap.size w V) ⟨heap2_0 w _ _, heap2_1 w _ _, h2.out⟩ ?_
  rintro w1 ⟨x1, x2, b1⟩
  have z1 : w1.cell? ⟨w.heap.size, 0, none⟩ = some (.slice A n c) := x1.cells 0
  have z2 : w1.cell? ⟨w.heap.size + 1, 0, none⟩ = some (.slice Aj nj cj) := x2.cells 0
  have z3 : w1.cell? ⟨w.heap.size + 1, 1, none⟩ = some (.slice Ah nh ch) := x2.cells 1
  have z4 : w1.cell? ⟨w.heap.size + 1, 2, none⟩ = some (.int .i64 mode) := x2.cells 2
  have l1 := x2.lt
  have X1 := hid x1
  have X2 := hid x2
  have B1 := hid b1
  clear x1 x2 b1
  go_wp2_with fail
  refine (hq.out _ B1.out).mono ?_
  rintro e w2 ⟨rfl, b2⟩
  have HB2 := hid (B1.out.trans (b2.mono B1.out.size))
  have HX1 := hid (X1.out.below b2 X1.out.lt)
  have HX2 := hid (X2.out.below b2 X2.out.lt)
  have y1 : w2.cell? ⟨w.heap.size, 0, none⟩ = some (.slice A n c) := HX1.out.cells 0
  have y2 : w2.cell? ⟨w.heap.size + 1, 0, none⟩ = some (.slice Aj nj cj) := HX2.out.cells 0
  have y3 : w2.cell? ⟨w.heap.size + 1, 1, none⟩ = some (.slice Ah nh ch) := HX2.out.cells 1
  have y4 : w2.cell? ⟨w.heap.size + 1, 2, none⟩ = some (.int .i64 mode) := HX2.out.cells 2
  clear z1 z2 z3 z4 b2 X1 X2
  go_wp2_with fail
  refine (hru.out _ HB2.out).mono ?_
  rintro e w4 ⟨v1, v2, v3, rfl, oj, oh, oy, b4⟩
  have hff := fun u => seen_field3 v1 v2 v3 (.int .i64 s.code) (.int .i64 s.shared) u
  have HB4 := hid b4
  have OY := hid oy
  clear oj oh oy b4 y1 y2 y3 y4
  go_wp2_with fail
  go_ret2
  exact ⟨by rw [HR.out] <;> rfl, HB2.out.trans (HB4.out.mono HB2.out.size)⟩
set_option maxRecDepth 100000 in
set_option maxHeartbeats 1000000 in
theorem leftS_any (lo n c nj nh cj ch : Nat) (A Aj Ah : Option Addr) (p : Pg) (js : List Pr) (hs : List Int) (mode fuel : Int) (hn : n ≤ 9223372036854775807) (hl : p.length = n) (hsm : Small p 9223372036854775807) (hj : nj ≤ 9223372036854775807) (lj : js.length = nj) (hh : nh ≤ 9223372036854775807) (lh : hs.length = nh) (w : World) (ho : OwnP w lo (.slice A n c) p) (hrs : RdSe w w.heap.size Aj Ah js hs) :
  Calls Try.prog 45 #[.agg #[.slice A n c], .agg #[.slice Aj nj cj, .slice Ah nh ch, .int .i64 mode], .int .i64 fuel] w (NumR (leftR p js hs mode fuel) w) := by
 have hq := hid (fun W (h : Below w.heap.size w W) => l10Ask_any lo n c nj nh cj ch A Aj Ah p js hs mode fuel hn hl hsm hj lj hh lh W (ho.below h) ((hrs.below h).more h.size))
 have h2 := hid (App.Bl.alloc (App.Bl.alloc (App.Bl.refl w) (.cells #[.slice A n c] 35)) (.cells #[.slice Aj nj cj, .slice Ah nh ch, .int .i64 mode] 39))
 cases hk : askSes p js hs mode fuel with
 | false =>
  have HR := hid (show leftR p js hs mode fuel = (0, false) by unfold leftR; rw [hk]; rfl)
  rw [hk] at hq
  clear hk ho hrs hsm
  go_enter Try.func45, Try.ntmps45
  go_upto_region 1 with fail
  change (fun V => Code.wp _ _ _ _ V) _
  refine gen_world (X := fun V => Blk V w.heap.size 35 #[.slice A n c] ∧ Blk V (w.heap.size + 1) 39 #[.slice Aj nj cj, .slice Ah nh ch, .int .i64 mode] ∧ Below w.heap.size w V) ⟨heap2_0 w _ _, heap2_1 w _ _, h2.out⟩ ?_
  rintro w1 ⟨x1, x2, b1⟩
  have z1 : w1.cell? ⟨w.heap.size, 0, none⟩ = some (.slice A n c) := x1.cells 0
  have z2 : w1.cell? ⟨w.heap.size + 1, 0, none⟩ = some (.slice Aj nj cj) := x2.cells 0
  have z3 : w1.cell? ⟨w.heap.size + 1, 1, none⟩ = some (.slice Ah nh ch) := x2.cells 1
  have z4 : w1.cell? ⟨w.heap.size + 1, 2, none⟩ = some (.int .i64 mode) := x2.cells 2
  have l1 := x2.lt
  have X1 := hid x1
  have X2 := hid x2
  have B1 := hid b1
  clear x1 x2 b1
  go_wp2_with fail
  refine (hq.out _ B1.out).mono ?_
  rintro e w2 ⟨rfl, b2⟩
  have HB2 := hid (B1.out.trans (b2.mono B1.out.size))
  clear b2
  go_wp2_with fail
  go_ret2
  exact ⟨by rw [HR.out] <;> rfl, HB2.out⟩
 | true =>
  have hn6 := okProg_small (ses_parts hk).1
  have hru := hid (fun W (h : Below w.heap.size w W) => l10Run_any lo n c nj nh cj ch A Aj Ah p js hs mode fuel hl (hn6.2.mono (by omega)) (by omega) lj lh hk W (ho.below h) ((hrs.below h).more h.size))
  have HR := hid (show leftR p js hs mode fuel = ((sesS p fuel mode js hs).shared, true) by unfold leftR; rw [if_pos hk])
  rw [hk] at hq
  clear hk ho hrs hsm hn6
  generalize sesS p fuel mode js hs = s at *
  unfold Sey.RunR at hru
  go_enter Try.func45, Try.ntmps45
  go_upto_region 1 with fail
  change (fun V => Code.wp _ _ _ _ V) _
  refine gen_world (X := fun V => Blk V w.heap.size 35 #[.slice A n c] ∧ Blk V (w.heap.size + 1) 39 #[.slice Aj nj cj, .slice Ah nh ch, .int .i64 mode] ∧ Below w.heap.size w V) ⟨heap2_0 w _ _, heap2_1 w _ _, h2.out⟩ ?_
  rintro w1 ⟨x1, x2, b1⟩
  have z1 : w1.cell? ⟨w.heap.size, 0, none⟩ = some (.slice A n c) := x1.cells 0
  have z2 : w1.cell? ⟨w.heap.size + 1, 0, none⟩ = some (.slice Aj nj cj) := x2.cells 0
  have z3 : w1.cell? ⟨w.heap.size + 1, 1, none⟩ = some (.slice Ah nh ch) := x2.cells 1
  have z4 : w1.cell? ⟨w.heap.size + 1, 2, none⟩ = some (.int .i64 mode) := x2.cells 2
  have l1 := x2.lt
  have X1 := hid x1
  have X2 := hid x2
  have B1 := hid b1
  clear x1 x2 b1
  go_wp2_with fail
  refine (hq.out _ B1.out).mono ?_
  rintro e w2 ⟨rfl, b2⟩
  have HB2 := hid (B1.out.trans (b2.mono B1.out.size))
  have HX1 := hid (X1.out.below b2 X1.out.lt)
  have HX2 := hid (X2.out.below b2 X2.out.lt)
  have y1 : w2.cell? ⟨w.heap.size, 0, none⟩ = some (.slice A n c) := HX1.out.cells 0
  have y2 : w2.cell? ⟨w.heap.size + 1, 0, none⟩ = some (.slice Aj nj cj) := HX2.out.cells 0
  have y3 : w2.cell? ⟨w.heap.size + 1, 1, none⟩ = some (.slice Ah nh ch) := HX2.out.cells 1
  have y4 : w2.cell? ⟨w.heap.size + 1, 2, none⟩ = some (.int .i64 mode) := HX2.out.cells 2
  clear z1 z2 z3 z4 b2 X1 X2
  go_wp2_with fail
  refine (hru.out _ HB2.out).mono ?_
  rintro e w4 ⟨v1, v2, v3, rfl, oj, oh, oy, b4⟩
  have hff := fun u => seen_field4 v1 v2 v3 (.int .i64 s.code) (.int .i64 s.shared) u
  have HB4 := hid b4
  have OY := hid oy
  clear oj oh oy b4 y1 y2 y3 y4
  go_wp2_with fail
  go_ret2
  exact ⟨by rw [HR.out] <;> rfl, HB2.out.trans (HB4.out.mono HB2.out.size)⟩
set_option maxRecDepth 100000 in
set_option maxHeartbeats 1000000 in
theorem ssaysS_any (lo n c nj nh cj ch : Nat) (A Aj Ah : Option Addr) (p : Pg) (js : List Pr) (hs : List Int) (mode fuel : Int) (hn : n ≤ 9223372036854775807) (hl : p.length = n) (hsm : Small p 9223372036854775807) (hj : nj ≤ 9223372036854775807) (lj : js.length = nj) (hh : nh ≤ 9223372036854775807) (lh : hs.length = nh) (w : World) (ho : OwnP w lo (.slice A n c) p) (hrs : RdSe w w.heap.size Aj Ah js hs) :
  Calls Try.prog 43 #[.agg #[.slice A n c], .agg #[.slice Aj nj cj, .slice Ah nh ch, .int .i64 mode], .int .i64 fuel] w (IntsR (ssaysR p js hs mode fuel) w) := by
 have hq := hid (fun W (h : Below w.heap.size w W) => l10Ask_any lo n c nj nh cj ch A Aj Ah p js hs mode fuel hn hl hsm hj lj hh lh W (ho.below h) ((hrs.below h).more h.size))
 have h2 := hid (App.Bl.alloc (App.Bl.alloc (App.Bl.refl w) (.cells #[.slice A n c] 35)) (.cells #[.slice Aj nj cj, .slice Ah nh ch, .int .i64 mode] 39))
 cases hk : askSes p js hs mode fuel with
 | false =>
  have HR := hid (show ssaysR p js hs mode fuel = ([], false) by unfold ssaysR; rw [hk]; rfl)
  rw [hk] at hq
  clear hk ho hrs hsm
  go_enter Try.func43, Try.ntmps43
  go_upto_region 1 with fail
  change (fun V => Code.wp _ _ _ _ V) _
  refine gen_world (X := fun V => Blk V w.heap.size 35 #[.slice A n c] ∧ Blk V (w.heap.size + 1) 39 #[.slice Aj nj cj, .slice Ah nh ch, .int .i64 mode] ∧ Below w.heap.size w V) ⟨heap2_0 w _ _, heap2_1 w _ _, h2.out⟩ ?_
  rintro w1 ⟨x1, x2, b1⟩
  have z1 : w1.cell? ⟨w.heap.size, 0, none⟩ = some (.slice A n c) := x1.cells 0
  have z2 : w1.cell? ⟨w.heap.size + 1, 0, none⟩ = some (.slice Aj nj cj) := x2.cells 0
  have z3 : w1.cell? ⟨w.heap.size + 1, 1, none⟩ = some (.slice Ah nh ch) := x2.cells 1
  have z4 : w1.cell? ⟨w.heap.size + 1, 2, none⟩ = some (.int .i64 mode) := x2.cells 2
  have l1 := x2.lt
  have X1 := hid x1
  have X2 := hid x2
  have B1 := hid b1
  clear x1 x2 b1
  go_wp2_with fail
  refine (hq.out _ B1.out).mono ?_
  rintro e w2 ⟨rfl, b2⟩
  have HB2 := hid (B1.out.trans (b2.mono B1.out.size))
  clear b2
  go_wp2_with fail
  go_ret2
  exact ⟨_, _, by rw [HR.out] <;> rfl, by rw [HR.out]; exact App.empty_own (heap1_0 w2 _) HB2.out.size, HB2.out.alloc HB2.out.size _⟩
 | true =>
  have hn6 := okProg_small (ses_parts hk).1
  have hru := hid (fun W (h : Below w.heap.size w W) => l10Run_any lo n c nj nh cj ch A Aj Ah p js hs mode fuel hl (hn6.2.mono (by omega)) (by omega) lj lh hk W (ho.below h) ((hrs.below h).more h.size))
  have HR := hid (show ssaysR p js hs mode fuel = ((sesS p fuel mode js hs).says, true) by unfold ssaysR; rw [if_pos hk])
  rw [hk] at hq
  clear hk ho hrs hsm hn6
  generalize sesS p fuel mode js hs = s at *
  unfold Sey.RunR at hru
  go_enter Try.func43, Try.ntmps43
  go_upto_region 1 with fail
  change (fun V => Code.wp _ _ _ _ V) _
  refine gen_world (X := fun V => Blk V w.heap.size 35 #[.slice A n c] ∧ Blk V (w.heap.size + 1) 39 #[.slice Aj nj cj, .slice Ah nh ch, .int .i64 mode] ∧ Below w.heap.size w V) ⟨heap2_0 w _ _, heap2_1 w _ _, h2.out⟩ ?_
  rintro w1 ⟨x1, x2, b1⟩
  have z1 : w1.cell? ⟨w.heap.size, 0, none⟩ = some (.slice A n c) := x1.cells 0
  have z2 : w1.cell? ⟨w.heap.size + 1, 0, none⟩ = some (.slice Aj nj cj) := x2.cells 0
  have z3 : w1.cell? ⟨w.heap.size + 1, 1, none⟩ = some (.slice Ah nh ch) := x2.cells 1
  have z4 : w1.cell? ⟨w.heap.size + 1, 2, none⟩ = some (.int .i64 mode) := x2.cells 2
  have l1 := x2.lt
  have X1 := hid x1
  have X2 := hid x2
  have B1 := hid b1
  clear x1 x2 b1
  go_wp2_with fail
  refine (hq.out _ B1.out).mono ?_
  rintro e w2 ⟨rfl, b2⟩
  have HB2 := hid (B1.out.trans (b2.mono B1.out.size))
  have HX1 := hid (X1.out.below b2 X1.out.lt)
  have HX2 := hid (X2.out.below b2 X2.out.lt)
  have y1 : w2.cell? ⟨w.heap.size, 0, none⟩ = some (.slice A n c) := HX1.out.cells 0
  have y2 : w2.cell? ⟨w.heap.size + 1, 0, none⟩ = some (.slice Aj nj cj) := HX2.out.cells 0
  have y3 : w2.cell? ⟨w.heap.size + 1, 1, none⟩ = some (.slice Ah nh ch) := HX2.out.cells 1
  have y4 : w2.cell? ⟨w.heap.size + 1, 2, none⟩ = some (.int .i64 mode) := HX2.out.cells 2
  clear z1 z2 z3 z4 b2 X1 X2
  go_wp2_with fail
  refine (hru.out _ HB2.out).mono ?_
  rintro e w4 ⟨v1, v2, v3, rfl, oj, oh, oy, b4⟩
  have hff := fun u => seen_field2 v1 v2 v3 (.int .i64 s.code) (.int .i64 s.shared) u
  obtain ⟨A3, c3, rfl⟩ := own_slice oy
  have HB4 := hid b4
  have OY := hid oy
  clear oj oh oy b4 y1 y2 y3 y4
  go_wp2_with fail
  go_ret2
  exact ⟨A3, c3, by rw [HR.out] <;> rfl, by rw [HR.out]; exact own_mono OY.out HB2.out.size, HB2.out.trans (HB4.out.mono HB2.out.size)⟩
def TwoR (ap : Bool) (r : List Int × List Int × Bool) (w : World) (e : Ending) (w' : World) : Prop :=
 ∃ A1 c1 A2 c2, e = .returned (.tuple #[.slice A1 r.1.length c1, .slice A2 r.2.1.length c2, .bool r.2.2]) ∧ OwnI w' w.heap.size (.slice A1 r.1.length c1) r.1 ∧ OwnI w' w.heap.size (.slice A2 r.2.1.length c2) r.2.1 ∧ (ap = true → Apt (.slice A1 r.1.length c1) (.slice A2 r.2.1.length c2)) ∧ Below w.heap.size w w'
set_option maxRecDepth 100000 in
set_option maxHeartbeats 1000000 in
theorem kindsS_any (lo n c nj nh cj ch : Nat) (A Aj Ah : Option Addr) (p : Pg) (js : List Pr) (hs : List Int) (mode fuel : Int) (hn : n ≤ 9223372036854775807) (hl : p.length = n) (hsm : Small p 9223372036854775807) (hj : nj ≤ 9223372036854775807) (lj : js.length = nj) (hh : nh ≤ 9223372036854775807) (lh : hs.length = nh) (w : World) (ho : OwnP w lo (.slice A n c) p) (hrs : RdSe w w.heap.size Aj Ah js hs) :
  Calls Try.prog 38 #[.agg #[.slice A n c], .agg #[.slice Aj nj cj, .slice Ah nh ch, .int .i64 mode], .int .i64 fuel] w (TwoR false (kindsR p js hs mode fuel) w) := by
 have hq := hid (fun W (h : Below w.heap.size w W) => l10Ask_any lo n c nj nh cj ch A Aj Ah p js hs mode fuel hn hl hsm hj lj hh lh W (ho.below h) ((hrs.below h).more h.size))
 have h2 := hid (App.Bl.alloc (App.Bl.alloc (App.Bl.refl w) (.cells #[.slice A n c] 35)) (.cells #[.slice Aj nj cj, .slice Ah nh ch, .int .i64 mode] 39))
 cases hk : askSes p js hs mode fuel with
 | false =>
  have HR := hid (show kindsR p js hs mode fuel = ([], [], false) by unfold kindsR; rw [hk]; rfl)
  rw [hk] at hq
  clear hk ho hrs hsm
  go_enter Try.func38, Try.ntmps38
  go_upto_region 1 with fail
  change (fun V => Code.wp _ _ _ _ V) _
  refine gen_world (X := fun V => Blk V w.heap.size 35 #[.slice A n c] ∧ Blk V (w.heap.size + 1) 39 #[.slice Aj nj cj, .slice Ah nh ch, .int .i64 mode] ∧ Below w.heap.size w V) ⟨heap2_0 w _ _, heap2_1 w _ _, h2.out⟩ ?_
  rintro w1 ⟨x1, x2, b1⟩
  have z1 : w1.cell? ⟨w.heap.size, 0, none⟩ = some (.slice A n c) := x1.cells 0
  have z2 : w1.cell? ⟨w.heap.size + 1, 0, none⟩ = some (.slice Aj nj cj) := x2.cells 0
  have z3 : w1.cell? ⟨w.heap.size + 1, 1, none⟩ = some (.slice Ah nh ch) := x2.cells 1
  have z4 : w1.cell? ⟨w.heap.size + 1, 2, none⟩ = some (.int .i64 mode) := x2.cells 2
  have l1 := x2.lt
  have X1 := hid x1
  have X2 := hid x2
  have B1 := hid b1
  clear x1 x2 b1
  go_wp2_with fail
  refine (hq.out _ B1.out).mono ?_
  rintro e w2 ⟨rfl, b2⟩
  have HB2 := hid (B1.out.trans (b2.mono B1.out.size))
  clear b2
  go_wp2_with fail
  go_ret3
  exact ⟨_, _, _, _, by rw [HR.out] <;> rfl, by rw [HR.out]; exact App.empty_own ((Frs.new_at rfl).alloc _) HB2.out.size, by rw [HR.out]; exact App.empty_own (Frs.new_at (by simp)) (by have := HB2.out.size; omega), fun h => (by cases h), (HB2.out.alloc HB2.out.size _).alloc (by have := HB2.out.size; simp; omega) _⟩
 | true =>
  have hn6 := okProg_small (ses_parts hk).1
  have hru := hid (fun W (h : Below w.heap.size w W) => l10Run_any lo n c nj nh cj ch A Aj Ah p js hs mode fuel hl (hn6.2.mono (by omega)) (by omega) lj lh hk W (ho.below h) ((hrs.below h).more h.size))
  have HR := hid (show kindsR p js hs mode fuel = ((sesS p fuel mode js hs).jobs, (sesS p fuel mode js hs).hooks, true) by unfold kindsR; rw [if_pos hk])
  rw [hk] at hq
  clear hk ho hrs hsm hn6
  generalize sesS p fuel mode js hs = s at *
  unfold Sey.RunR at hru
  go_enter Try.func38, Try.ntmps38
  go_upto_region 1 with fail
  change (fun V => Code.wp _ _ _ _ V) _
  refine gen_world (X := fun V => Blk V w.heap.size 35 #[.slice A n c] ∧ Blk V (w.heap.size + 1) 39 #[.slice Aj nj cj, .slice Ah nh ch, .int .i64 mode] ∧ Below w.heap.size w V) ⟨heap2_0 w _ _, heap2_1 w _ _, h2.out⟩ ?_
  rintro w1 ⟨x1, x2, b1⟩
  have z1 : w1.cell? ⟨w.heap.size, 0, none⟩ = some (.slice A n c) := x1.cells 0
  have z2 : w1.cell? ⟨w.heap.size + 1, 0, none⟩ = some (.slice Aj nj cj) := x2.cells 0
  have z3 : w1.cell? ⟨w.heap.size + 1, 1, none⟩ = some (.slice Ah nh ch) := x2.cells 1
  have z4 : w1.cell? ⟨w.heap.size + 1, 2, none⟩ = some (.int .i64 mode) := x2.cells 2
  have l1 := x2.lt
  have X1 := hid x1
  have X2 := hid x2
  have B1 := hid b1
  clear x1 x2 b1
  go_wp2_with fail
  refine (hq.out _ B1.out).mono ?_
  rintro e w2 ⟨rfl, b2⟩
  have HB2 := hid (B1.out.trans (b2.mono B1.out.size))
  have HX1 := hid (X1.out.below b2 X1.out.lt)
  have HX2 := hid (X2.out.below b2 X2.out.lt)
  have y1 : w2.cell? ⟨w.heap.size, 0, none⟩ = some (.slice A n c) := HX1.out.cells 0
  have y2 : w2.cell? ⟨w.heap.size + 1, 0, none⟩ = some (.slice Aj nj cj) := HX2.out.cells 0
  have y3 : w2.cell? ⟨w.heap.size + 1, 1, none⟩ = some (.slice Ah nh ch) := HX2.out.cells 1
  have y4 : w2.cell? ⟨w.heap.size + 1, 2, none⟩ = some (.int .i64 mode) := HX2.out.cells 2
  clear z1 z2 z3 z4 b2 X1 X2
  go_wp2_with fail
  refine (hru.out _ HB2.out).mono ?_
  rintro e w4 ⟨v1, v2, v3, rfl, oj, oh, oy, b4⟩
  obtain ⟨A1, c1, rfl⟩ := own_slice oj
  obtain ⟨A2, c2, rfl⟩ := own_slice oh
  obtain ⟨A3, c3, rfl⟩ := own_slice oy
  have HB4 := hid b4
  have OJ := hid oj
  have OH := hid oh
  clear oj oh oy b4 y1 y2 y3 y4
  go_upto_region 4 with fail
  change (fun V => Code.wp _ _ _ _ V) _
  refine gen_world (X := fun V => Blk V w4.heap.size 110 #[.slice A1 s.jobs.length c1, .slice A2 s.hooks.length c2, .slice A3 s.says.length c3, .int .i64 s.code, .int .i64 s.shared] ∧ (OwnI V w.heap.size (.slice A1 s.jobs.length c1) s.jobs ∧ OwnI V w.heap.size (.slice A2 s.hooks.length c2) s.hooks) ∧ Below w.heap.size w V) ⟨Frs.new_at rfl, ⟨World.ownsRow.alloc (own_mono OJ.out HB2.out.size) _, World.ownsRow.alloc (own_mono OH.out HB2.out.size) _⟩, (HB2.out.trans (HB4.out.mono HB2.out.size)).alloc (Nat.le_trans HB2.out.size HB4.out.size) _⟩ ?_
  clear OJ OH HB4 HB2
  rintro V ⟨q1, q2, q3⟩
  have z1 : V.drew.cell? ⟨w4.heap.size, 0, none⟩ = some (.slice A1 s.jobs.length c1) := q1.cells 0
  have z2 : V.drew.cell? ⟨w4.heap.size, 1, none⟩ = some (.slice A2 s.hooks.length c2) := q1.cells 1
  have y1 : V.cell? ⟨w4.heap.size, 0, none⟩ = some (.slice A1 s.jobs.length c1) := q1.cells 0
  have y2 : V.cell? ⟨w4.heap.size, 1, none⟩ = some (.slice A2 s.hooks.length c2) := q1.cells 1
  have HQ := hid (And.intro q2 q3)
  clear q1 q2 q3
  go_quiet (fail)
  go_wp2_with fail
  go_ret3
  refine ⟨A1, c1, A2, c2, by rw [HR.out] <;> rfl, by rw [HR.out]; exact own_below HQ.out.1.1 (below_drewN (Below.refl _ _) _) (Nat.le_refl _), by rw [HR.out]; exact own_below HQ.out.1.2 (below_drewN (Below.refl _ _) _) (Nat.le_refl _), fun h => (by cases h), below_drewN HQ.out.2 _⟩
set_option maxRecDepth 100000 in
set_option maxHeartbeats 1000000 in
theorem kindsI_any (lo n c nj nh cj ch : Nat) (A Aj Ah : Option Addr) (p : Pg) (js : List Pr) (hs : List Int) (mode fuel : Int) (hn : n ≤ 9223372036854775807) (hl : p.length = n) (hsm : Small p 9223372036854775807) (hj : nj ≤ 9223372036854775807) (lj : js.length = nj) (hh : nh ≤ 9223372036854775807) (lh : hs.length = nh) (w : World) (ho : OwnP w lo (.slice A n c) p) (hrs : RdSe w w.heap.size Aj Ah js hs) :
  Calls Try.prog 39 #[.agg #[.slice A n c], .agg #[.slice Aj nj cj, .slice Ah nh ch, .int .i64 mode], .int .i64 fuel] w (TwoR true (kindsR p js hs mode fuel) w) := by
 have hso := hid (fun W (h : Below w.heap.size w W) => sitOf_any lo n c nj nh cj ch A Aj Ah p js hs mode fuel hn hl hsm hj lj hh lh W (ho.below h) ((hrs.below h).more h.size))
 have h2 := hid (App.Bl.alloc (App.Bl.alloc (App.Bl.refl w) (.cells #[.slice A n c] 35)) (.cells #[.slice Aj nj cj, .slice Ah nh ch, .int .i64 mode] 39))
 have HR := hid (show kindsR p js hs mode fuel = ((sitR p js hs mode fuel).1.jobs, (sitR p js hs mode fuel).1.hooks, (sitR p js hs mode fuel).2) by unfold kindsR sitR; split <;> rfl)
 generalize sitR p js hs mode fuel = r at *
 obtain ⟨s, b⟩ := r
 dsimp only at HR
 unfold SitO at hso
 dsimp only at hso
 clear ho hrs hsm
 go_enter Try.func39, Try.ntmps39
 go_upto_region 1 with fail
 change (fun V => Code.wp _ _ _ _ V) _
 refine gen_world (X := fun V => Blk V w.heap.size 35 #[.slice A n c] ∧ Blk V (w.heap.size + 1) 39 #[.slice Aj nj cj, .slice Ah nh ch, .int .i64 mode] ∧ Below w.heap.size w V) ⟨heap2_0 w _ _, heap2_1 w _ _, h2.out⟩ ?_
 rintro w1 ⟨x1, x2, b1⟩
 have z1 : w1.cell? ⟨w.heap.size, 0, none⟩ = some (.slice A n c) := x1.cells 0
 have z2 : w1.cell? ⟨w.heap.size + 1, 0, none⟩ = some (.slice Aj nj cj) := x2.cells 0
 have z3 : w1.cell? ⟨w.heap.size + 1, 1, none⟩ = some (.slice Ah nh ch) := x2.cells 1
 have z4 : w1.cell? ⟨w.heap.size + 1, 2, none⟩ = some (.int .i64 mode) := x2.cells 2
 have l1 := x2.lt
 have X1 := hid x1
 have X2 := hid x2
 have B1 := hid b1
 clear x1 x2 b1
 go_wp2_with fail
 refine (hso.out _ B1.out).mono ?_
 rintro e w2 ⟨g, v0, v1, v2, v3, fu, mo, rfl, hs2⟩
 obtain ⟨A1, c1, rfl⟩ := own_slice hs2.j
 obtain ⟨A2, c2, rfl⟩ := own_slice hs2.h
 have hs3 : SitF w g v0 (.slice A1 s.jobs.length c1) (.slice A2 s.hooks.length c2) v3 fu mo s w2 := ⟨hs2.blk, own_mono hs2.j B1.out.size, own_mono hs2.h B1.out.size, own_mono hs2.y B1.out.size, hs2.a12, B1.out.trans (hs2.bel.mono B1.out.size)⟩
 have y1 : w2.cell? ⟨g, 5, none⟩ = some (.slice A1 s.jobs.length c1) := hs3.blk.cells 5
 have y2 : w2.cell? ⟨g, 6, none⟩ = some (.slice A2 s.hooks.length c2) := hs3.blk.cells 6
 have S2 := hid hs3
 clear hs2 hs3 z1 z2 z3 z4
 go_wp2_with fail
 go_quiet (fail)
 go_wp2_with fail
 go_ret3
 exact ⟨A1, c1, A2, c2, by rw [HR.out] <;> rfl, by rw [HR.out]; exact own_below S2.out.j (below_drewN (Below.refl _ _) _) (Nat.le_refl _), by rw [HR.out]; exact own_below S2.out.h (below_drewN (Below.refl _ _) _) (Nat.le_refl _), fun _ => by rw [HR.out]; exact S2.out.a12, below_drewN S2.out.bel _⟩
end Go.Proofs.Ythejnpignlhgiaa.Sew
-- squeezed
