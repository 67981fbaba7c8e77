import Derived.Test.YthejnpignlhgiaaSiv
import Derived.Test.YthejnpignlhgiaaSei
import Derived.Test.YthejnpignlhgiaaM2
import Derived.BigQuiet
set_option linter.all false
namespace Go.Proofs.Ythejnpignlhgiaa.Siw
open Lib (hid)
open Go.ChangeShapes Go.WideShapes Go.ChangeAt Go.RowKit
open PL Mem To Srun Sst IntsP RowA OwnS AskP Res Swhole Sout StS Frp Sep Sit Siu Siv SemP Sei LawN LawI
theorem ask_split (p : Pg) (js : List Pr) (hs : List Int) (mode fuel : Int) : askSes p js hs mode fuel = (asks p 0 0 fuel && sesB p js hs mode) := by
 unfold askSes okSes asks isFn isNum StpS.btw
 cases ok : okProg p with
 | false => simp
 | true =>
  have h0 : (0 : Int) < p.length := by
   unfold okProg at ok
   simp at ok
   omega
  rw [show decide ((0 : Int) < (p.length : Int)) = true from decide_eq_true h0]
  cases sesB p js hs mode <;> simp
def sitR (p : Pg) (js : List Pr) (hs : List Int) (mode fuel : Int) : Sen × Bool := if askSes p js hs mode fuel = true then (sesS p fuel mode js hs, true) else (sen0, false)
structure SitF (w : World) (g : Nat) (v0 v1 v2 v3 : Value) (fu mo : Int) (s : Sen) (w' : World) : Prop where
 blk : Blk w' g 116 #[v0, .int .i64 fu, .int .i64 mo, .int .i64 s.shared, .int .i64 s.code, v1, v2, v3]
 j : OwnI w' w.heap.size v1 s.jobs
 h : OwnI w' w.heap.size v2 s.hooks
 y : OwnI w' w.heap.size v3 s.says
 a12 : Apt v1 v2
 bel : Below w.heap.size w w'
def SitO (r : Sen × Bool) (w : World) (e : Ending) (w' : World) : Prop :=
 ∃ g v0 v1 v2 v3 fu mo, e = .returned (.tuple #[.pointer (some ⟨g, 0, none⟩), .bool r.2]) ∧ SitF w g v0 v1 v2 v3 fu mo r.1 w'
set_option maxRecDepth 100000 in
set_option maxHeartbeats 4000000 in
theorem sitOf_any (lo n c nj nh cj ch : Nat) (A Aj Ah : Option Addr) (p : Pg) (js : List Pr) (hs : List Int) (mode fuel : Int) (hn : n ≤ 9223372036854775807) (hl : p.length = n) (hsm : Small p 9223372036854775807) (hj : nj ≤ 9223372036854775807) (lj : js.length = nj) (hh : nh ≤ 9223372036854775807) (lh : hs.length = nh) (w : World) (ho : OwnP w lo (.slice A n c) p) (hrs : RdSe w w.heap.size Aj Ah js hs) :
  Calls Try.prog 88 #[.agg #[.slice A n c], .agg #[.slice Aj nj cj, .slice Ah nh ch, .int .i64 mode], .int .i64 fuel] w (SitO (sitR p js hs mode fuel) w) := by
 have hq := hid (fun W (h : Below w.heap.size w W) => canRun_any w.heap.size A n c p 0 0 fuel hn hl hsm W (ho.rd.below h) h.size)
 have hS := hid (fun W (h : Below w.heap.size w W) => isSes_any w.heap.size n c nj nh cj ch A Aj Ah p js hs mode hn hl hsm hj lj hh lh W (ho.rd.below h) (hrs.below h) h.size)
 have h2 := hid (App.Bl.alloc (App.Bl.alloc (App.Bl.refl w) (.cells #[.slice A n c] 35)) (.cells #[.slice Aj nj cj, .slice Ah nh ch, .int .i64 mode] 39))
 cases hk : asks p 0 0 fuel with
 | false =>
  have HS := hid (show sitR p js hs mode fuel = (sen0, false) by unfold sitR; rw [ask_split, hk]; rfl)
  rw [hk] at hq
  clear hk ho hrs hsm
  go_enter Try.func88, Try.ntmps88
  go_upto_region 1 with fail
  change (fun V => Code.wp _ _ _ _ V) _
  refine gen_world (X := fun V => Blk V w.heap.size 35 #[.slice A n c] ∧ Blk V (w.heap.size + 1) 39 #[.slice Aj nj cj, .slice Ah nh ch, .int .i64 mode] ∧ Below w.heap.size w V) ⟨heap2_0 w _ _, heap2_1 w _ _, h2.out⟩ ?_
  rintro w1 ⟨x1, x2, b1⟩
  have z1 : w1.cell? ⟨w.heap.size, 0, none⟩ = some (.slice A n c) := x1.cells 0
  have z2 : w1.cell? ⟨w.heap.size + 1, 0, none⟩ = some (.slice Aj nj cj) := x2.cells 0
  have z3 : w1.cell? ⟨w.heap.size + 1, 1, none⟩ = some (.slice Ah nh ch) := x2.cells 1
  have z4 : w1.cell? ⟨w.heap.size + 1, 2, none⟩ = some (.int .i64 mode) := x2.cells 2
  have l1 := x2.lt
  have X1 := hid x1
  have X2 := hid x2
  have B1 := hid b1
  clear x1 x2 b1
  go_wp2_with fail
  refine (hq.out _ B1.out).mono ?_
  rintro e w2 ⟨rfl, b2⟩
  have HB2 := hid (B1.out.trans (b2.mono B1.out.size))
  clear b2
  go_wp2_with fail
  go_ret2
  exact ⟨w2.heap.size, _, _, _, _, _, _, by rw [HS.out] <;> rfl, by rw [HS.out]; exact ⟨heap1_0 w2 _, World.ownsRow_nil _ _ _ _, World.ownsRow_nil _ _ _ _, World.ownsRow_nil _ _ _ _, fun k hk => by simp [Value.ownBlock] at hk, HB2.out.alloc HB2.out.size _⟩⟩
 | true =>
  cases hb : sesB p js hs mode with
  | false =>
   have HS := hid (show sitR p js hs mode fuel = (sen0, false) by unfold sitR; rw [ask_split, hb, Bool.and_false]; rfl)
   rw [hk] at hq
   rw [hb] at hS
   clear hk hb ho hrs hsm
   go_enter Try.func88, Try.ntmps88
   go_upto_region 1 with fail
   change (fun V => Code.wp _ _ _ _ V) _
   refine gen_world (X := fun V => Blk V w.heap.size 35 #[.slice A n c] ∧ Blk V (w.heap.size + 1) 39 #[.slice Aj nj cj, .slice Ah nh ch, .int .i64 mode] ∧ Below w.heap.size w V) ⟨heap2_0 w _ _, heap2_1 w _ _, h2.out⟩ ?_
   rintro w1 ⟨x1, x2, b1⟩
   have z1 : w1.cell? ⟨w.heap.size, 0, none⟩ = some (.slice A n c) := x1.cells 0
   have z2 : w1.cell? ⟨w.heap.size + 1, 0, none⟩ = some (.slice Aj nj cj) := x2.cells 0
   have z3 : w1.cell? ⟨w.heap.size + 1, 1, none⟩ = some (.slice Ah nh ch) := x2.cells 1
   have z4 : w1.cell? ⟨w.heap.size + 1, 2, none⟩ = some (.int .i64 mode) := x2.cells 2
   have l1 := x2.lt
   have X1 := hid x1
   have X2 := hid x2
   have B1 := hid b1
   clear x1 x2 b1
   go_wp2_with fail
   refine (hq.out _ B1.out).mono ?_
   rintro e w2 ⟨rfl, b2⟩
   have HB2 := hid (B1.out.trans (b2.mono B1.out.size))
   have HX1 := hid (X1.out.below b2 X1.out.lt)
   have HX2 := hid (X2.out.below b2 X2.out.lt)
   have y1 : w2.cell? ⟨w.heap.size, 0, none⟩ = some (.slice A n c) := HX1.out.cells 0
   have y2 : w2.cell? ⟨w.heap.size + 1, 0, none⟩ = some (.slice Aj nj cj) := HX2.out.cells 0
   have y3 : w2.cell? ⟨w.heap.size + 1, 1, none⟩ = some (.slice Ah nh ch) := HX2.out.cells 1
   have y4 : w2.cell? ⟨w.heap.size + 1, 2, none⟩ = some (.int .i64 mode) := HX2.out.cells 2
   clear z1 z2 z3 z4 b2 X1 X2
   go_wp2_with fail
   refine (hS.out _ HB2.out).mono ?_
   rintro e w3 ⟨rfl, b3⟩
   have HB3 := hid (HB2.out.trans (b3.mono HB2.out.size))
   clear b3
   go_wp2_with fail
   go_ret2
   exact ⟨w3.heap.size, _, _, _, _, _, _, by rw [HS.out] <;> rfl, by rw [HS.out]; exact ⟨heap1_0 w3 _, World.ownsRow_nil _ _ _ _, World.ownsRow_nil _ _ _ _, World.ownsRow_nil _ _ _ _, fun k hk => by simp [Value.ownBlock] at hk, HB3.out.alloc HB3.out.size _⟩⟩
  | true =>
   have hask : askSes p js hs mode fuel = true := by rw [ask_split, hk, hb]; rfl
   have HS := hid (show sitR p js hs mode fuel = (sesS p fuel mode js hs, true) by unfold sitR; rw [if_pos hask])
   have hra := hid (fun (g : Nat) (W : World) (hb0 : Below w.heap.size w W) (hg0 : w.heap.size ≤ g) hbl => runAll_any w lo n c nj nh cj ch g A Aj Ah p js hs mode fuel hn hl hsm lj lh hask W ho hb0 hg0 hrs hbl)
   rw [hk] at hq
   rw [hb] at hS
   clear hk hb ho hrs hsm hask
   go_enter Try.func88, Try.ntmps88
   go_upto_region 1 with fail
   change (fun V => Code.wp _ _ _ _ V) _
   refine gen_world (X := fun V => Blk V w.heap.size 35 #[.slice A n c] ∧ Blk V (w.heap.size + 1) 39 #[.slice Aj nj cj, .slice Ah nh ch, .int .i64 mode] ∧ Below w.heap.size w V) ⟨heap2_0 w _ _, heap2_1 w _ _, h2.out⟩ ?_
   rintro w1 ⟨x1, x2, b1⟩
   have z1 : w1.cell? ⟨w.heap.size, 0, none⟩ = some (.slice A n c) := x1.cells 0
   have z2 : w1.cell? ⟨w.heap.size + 1, 0, none⟩ = some (.slice Aj nj cj) := x2.cells 0
   have z3 : w1.cell? ⟨w.heap.size + 1, 1, none⟩ = some (.slice Ah nh ch) := x2.cells 1
   have z4 : w1.cell? ⟨w.heap.size + 1, 2, none⟩ = some (.int .i64 mode) := x2.cells 2
   have l1 := x2.lt
   have X1 := hid x1
   have X2 := hid x2
   have B1 := hid b1
   clear x1 x2 b1
   go_wp2_with fail
   refine (hq.out _ B1.out).mono ?_
   rintro e w2 ⟨rfl, b2⟩
   have HB2 := hid (B1.out.trans (b2.mono B1.out.size))
   have HX1 := hid (X1.out.below b2 X1.out.lt)
   have HX2 := hid (X2.out.below b2 X2.out.lt)
   have y1 : w2.cell? ⟨w.heap.size, 0, none⟩ = some (.slice A n c) := HX1.out.cells 0
   have y2 : w2.cell? ⟨w.heap.size + 1, 0, none⟩ = some (.slice Aj nj cj) := HX2.out.cells 0
   have y3 : w2.cell? ⟨w.heap.size + 1, 1, none⟩ = some (.slice Ah nh ch) := HX2.out.cells 1
   have y4 : w2.cell? ⟨w.heap.size + 1, 2, none⟩ = some (.int .i64 mode) := HX2.out.cells 2
   clear z1 z2 z3 z4 b2 X1 X2
   go_wp2_with fail
   refine (hS.out _ HB2.out).mono ?_
   rintro e w3 ⟨rfl, b3⟩
   have HB3 := hid (HB2.out.trans (b3.mono HB2.out.size))
   have Y1 := HX1.out.below b3 HX1.out.lt
   have Y2 := HX2.out.below b3 HX2.out.lt
   have l3 := Y2.lt
   have t1 : w3.cell? ⟨w.heap.size, 0, none⟩ = some (.slice A n c) := Y1.cells 0
   have t2 : w3.cell? ⟨w.heap.size + 1, 0, none⟩ = some (.slice Aj nj cj) := Y2.cells 0
   have t3 : w3.cell? ⟨w.heap.size + 1, 1, none⟩ = some (.slice Ah nh ch) := Y2.cells 1
   have t4 : w3.cell? ⟨w.heap.size + 1, 2, none⟩ = some (.int .i64 mode) := Y2.cells 2
   clear b3 y1 y2 y3 y4 HX1 HX2 Y1 Y2
   go_wp2_with fail
   have hb4 := HB3.out.alloc HB3.out.size (.cells #[.slice A n c, .int .i64 fuel, .int .i64 mode, .int .i64 0, .int .i64 0, .slice none 0 0, .slice none 0 0, .slice none 0 0] 116)
   refine (hra.out w3.heap.size _ hb4 HB3.out.size (heap1_0 w3 _)).mono ?_
   rintro e w5 ⟨rfl, W1, b5, g1, v1, v2, v3, hs5⟩
   have S5 := hid hs5
   have hg3 := HB3.out.size
   have hb6 := hb4.trans (b5.mono hb4.size)
   have HB6 := hid (hb6.trans (hs5.chg.below hb6.size (fun x hx e => by omega)))
   have hsz6 := hb6.size
   clear hs5 t1 t2 t3 t4 b5 hb4 hb6
   go_wp2_with fail
   go_ret2
   exact ⟨w3.heap.size, _, v1, v2, v3, _, _, by rw [HS.out] <;> rfl, by rw [HS.out]; exact ⟨S5.out.blk, own_mono S5.out.j hsz6, own_mono S5.out.h hsz6, own_mono S5.out.y hsz6, S5.out.a12, HB6.out⟩⟩
set_option maxRecDepth 100000 in
set_option maxHeartbeats 1000000 in
theorem scodeI_any (lo n c nj nh cj ch : Nat) (A Aj Ah : Option Addr) (p : Pg) (js : List Pr) (hs : List Int) (mode fuel : Int) (hn : n ≤ 9223372036854775807) (hl : p.length = n) (hsm : Small p 9223372036854775807) (hj : nj ≤ 9223372036854775807) (lj : js.length = nj) (hh : nh ≤ 9223372036854775807) (lh : hs.length = nh) (w : World) (ho : OwnP w lo (.slice A n c) p) (hrs : RdSe w w.heap.size Aj Ah js hs) :
  Calls Try.prog 42 #[.agg #[.slice A n c], .agg #[.slice Aj nj cj, .slice Ah nh ch, .int .i64 mode], .int .i64 fuel] w (NumR (scodeR p js hs mode fuel) w) := by
 have hso := hid (fun W (h : Below w.heap.size w W) => sitOf_any lo n c nj nh cj ch A Aj Ah p js hs mode fuel hn hl hsm hj lj hh lh W (ho.below h) ((hrs.below h).more h.size))
 have h2 := hid (App.Bl.alloc (App.Bl.alloc (App.Bl.refl w) (.cells #[.slice A n c] 35)) (.cells #[.slice Aj nj cj, .slice Ah nh ch, .int .i64 mode] 39))
 have HR := hid (show scodeR p js hs mode fuel = ((sitR p js hs mode fuel).1.code, (sitR p js hs mode fuel).2) by unfold scodeR sitR; split <;> rfl)
 generalize sitR p js hs mode fuel = r at *
 obtain ⟨s, b⟩ := r
 dsimp only at HR
 unfold SitO at hso
 dsimp only at hso
 clear ho hrs hsm
 go_enter Try.func42, Try.ntmps42
 go_upto_region 1 with fail
 change (fun V => Code.wp _ _ _ _ V) _
 refine gen_world (X := fun V => Blk V w.heap.size 35 #[.slice A n c] ∧ Blk V (w.heap.size + 1) 39 #[.slice Aj nj cj, .slice Ah nh ch, .int .i64 mode] ∧ Below w.heap.size w V) ⟨heap2_0 w _ _, heap2_1 w _ _, h2.out⟩ ?_
 rintro w1 ⟨x1, x2, b1⟩
 have z1 : w1.cell? ⟨w.heap.size, 0, none⟩ = some (.slice A n c) := x1.cells 0
 have z2 : w1.cell? ⟨w.heap.size + 1, 0, none⟩ = some (.slice Aj nj cj) := x2.cells 0
 have z3 : w1.cell? ⟨w.heap.size + 1, 1, none⟩ = some (.slice Ah nh ch) := x2.cells 1
 have z4 : w1.cell? ⟨w.heap.size + 1, 2, none⟩ = some (.int .i64 mode) := x2.cells 2
 have l1 := x2.lt
 have X1 := hid x1
 have X2 := hid x2
 have B1 := hid b1
 clear x1 x2 b1
 go_wp2_with fail
 refine (hso.out _ B1.out).mono ?_
 rintro e w2 ⟨g, v0, v1, v2, v3, fu, mo, rfl, hs2⟩
 have hs3 : SitF w g v0 v1 v2 v3 fu mo s w2 := ⟨hs2.blk, own_mono hs2.j B1.out.size, own_mono hs2.h B1.out.size, own_mono hs2.y B1.out.size, hs2.a12, B1.out.trans (hs2.bel.mono B1.out.size)⟩
 have zz : w2.cell? ⟨g, 4, none⟩ = some (.int .i64 s.code) := hs3.blk.cells 4
 have S2 := hid hs3
 clear hs2 hs3 z1 z2 z3 z4
 go_wp2_with fail
 go_ret2
 exact ⟨by rw [HR.out] <;> rfl, S2.out.bel⟩
set_option maxRecDepth 100000 in
set_option maxHeartbeats 1000000 in
theorem leftI_any (lo n c nj nh cj ch : Nat) (A Aj Ah : Option Addr) (p : Pg) (js : List Pr) (hs : List Int) (mode fuel : Int) (hn : n ≤ 9223372036854775807) (hl : p.length = n) (hsm : Small p 9223372036854775807) (hj : nj ≤ 9223372036854775807) (lj : js.length = nj) (hh : nh ≤ 9223372036854775807) (lh : hs.length = nh) (w : World) (ho : OwnP w lo (.slice A n c) p) (hrs : RdSe w w.heap.size Aj Ah js hs) :
  Calls Try.prog 46 #[.agg #[.slice A n c], .agg #[.slice Aj nj cj, .slice Ah nh ch, .int .i64 mode], .int .i64 fuel] w (NumR (leftR p js hs mode fuel) w) := by
 have hso := hid (fun W (h : Below w.heap.size w W) => sitOf_any lo n c nj nh cj ch A Aj Ah p js hs mode fuel hn hl hsm hj lj hh lh W (ho.below h) ((hrs.below h).more h.size))
 have h2 := hid (App.Bl.alloc (App.Bl.alloc (App.Bl.refl w) (.cells #[.slice A n c] 35)) (.cells #[.slice Aj nj cj, .slice Ah nh ch, .int .i64 mode] 39))
 have HR := hid (show leftR p js hs mode fuel = ((sitR p js hs mode fuel).1.shared, (sitR p js hs mode fuel).2) by unfold leftR sitR; split <;> rfl)
 generalize sitR p js hs mode fuel = r at *
 obtain ⟨s, b⟩ := r
 dsimp only at HR
 unfold SitO at hso
 dsimp only at hso
 clear ho hrs hsm
 go_enter Try.func46, Try.ntmps46
 go_upto_region 1 with fail
 change (fun V => Code.wp _ _ _ _ V) _
 refine gen_world (X := fun V => Blk V w.heap.size 35 #[.slice A n c] ∧ Blk V (w.heap.size + 1) 39 #[.slice Aj nj cj, .slice Ah nh ch, .int .i64 mode] ∧ Below w.heap.size w V) ⟨heap2_0 w _ _, heap2_1 w _ _, h2.out⟩ ?_
 rintro w1 ⟨x1, x2, b1⟩
 have z1 : w1.cell? ⟨w.heap.size, 0, none⟩ = some (.slice A n c) := x1.cells 0
 have z2 : w1.cell? ⟨w.heap.size + 1, 0, none⟩ = some (.slice Aj nj cj) := x2.cells 0
 have z3 : w1.cell? ⟨w.heap.size + 1, 1, none⟩ = some (.slice Ah nh ch) := x2.cells 1
 have z4 : w1.cell? ⟨w.heap.size + 1, 2, none⟩ = some (.int .i64 mode) := x2.cells 2
 have l1 := x2.lt
 have X1 := hid x1
 have X2 := hid x2
 have B1 := hid b1
 clear x1 x2 b1
 go_wp2_with fail
 refine (hso.out _ B1.out).mono ?_
 rintro e w2 ⟨g, v0, v1, v2, v3, fu, mo, rfl, hs2⟩
 have hs3 : SitF w g v0 v1 v2 v3 fu mo s w2 := ⟨hs2.blk, own_mono hs2.j B1.out.size, own_mono hs2.h B1.out.size, own_mono hs2.y B1.out.size, hs2.a12, B1.out.trans (hs2.bel.mono B1.out.size)⟩
 have zz : w2.cell? ⟨g, 3, none⟩ = some (.int .i64 s.shared) := hs3.blk.cells 3
 have S2 := hid hs3
 clear hs2 hs3 z1 z2 z3 z4
 go_wp2_with fail
 go_ret2
 exact ⟨by rw [HR.out] <;> rfl, S2.out.bel⟩
set_option maxRecDepth 100000 in
set_option maxHeartbeats 1000000 in
theorem ssaysI_any (lo n c nj nh cj ch : Nat) (A Aj Ah : Option Addr) (p : Pg) (js : List Pr) (hs : List Int) (mode fuel : Int) (hn : n ≤ 9223372036854775807) (hl : p.length = n) (hsm : Small p 9223372036854775807) (hj : nj ≤ 9223372036854775807) (lj : js.length = nj) (hh : nh ≤ 9223372036854775807) (lh : hs.length = nh) (w : World) (ho : OwnP w lo (.slice A n c) p) (hrs : RdSe w w.heap.size Aj Ah js hs) :
  Calls Try.prog 44 #[.agg #[.slice A n c], .agg #[.slice Aj nj cj, .slice Ah nh ch, .int .i64 mode], .int .i64 fuel] w (IntsR (ssaysR p js hs mode fuel) w) := by
 have hso := hid (fun W (h : Below w.heap.size w W) => sitOf_any lo n c nj nh cj ch A Aj Ah p js hs mode fuel hn hl hsm hj lj hh lh W (ho.below h) ((hrs.below h).more h.size))
 have h2 := hid (App.Bl.alloc (App.Bl.alloc (App.Bl.refl w) (.cells #[.slice A n c] 35)) (.cells #[.slice Aj nj cj, .slice Ah nh ch, .int .i64 mode] 39))
 have HR := hid (show ssaysR p js hs mode fuel = ((sitR p js hs mode fuel).1.says, (sitR p js hs mode fuel).2) by unfold ssaysR sitR; split <;> rfl)
 generalize sitR p js hs mode fuel = r at *
 obtain ⟨s, b⟩ := r
 dsimp only at HR
 unfold SitO at hso
 dsimp only at hso
 clear ho hrs hsm
 go_enter Try.func44, Try.ntmps44
 go_upto_region 1 with fail
 change (fun V => Code.wp _ _ _ _ V) _
 refine gen_world (X := fun V => Blk V w.heap.size 35 #[.slice A n c] ∧ Blk V (w.heap.size + 1) 39 #[.slice Aj nj cj, .slice Ah nh ch, .int .i64 mode] ∧ Below w.heap.size w V) ⟨heap2_0 w _ _, heap2_1 w _ _, h2.out⟩ ?_
 rintro w1 ⟨x1, x2, b1⟩
 have z1 : w1.cell? ⟨w.heap.size, 0, none⟩ = some (.slice A n c) := x1.cells 0
 have z2 : w1.cell? ⟨w.heap.size + 1, 0, none⟩ = some (.slice Aj nj cj) := x2.cells 0
 have z3 : w1.cell? ⟨w.heap.size + 1, 1, none⟩ = some (.slice Ah nh ch) := x2.cells 1
 have z4 : w1.cell? ⟨w.heap.size + 1, 2, none⟩ = some (.int .i64 mode) := x2.cells 2
 have l1 := x2.lt
 have X1 := hid x1
 have X2 := hid x2
 have B1 := hid b1
 clear x1 x2 b1
 go_wp2_with fail
 refine (hso.out _ B1.out).mono ?_
 rintro e w2 ⟨g, v0, v1, v2, v3, fu, mo, rfl, hs2⟩
 have hs3 : SitF w g v0 v1 v2 v3 fu mo s w2 := ⟨hs2.blk, own_mono hs2.j B1.out.size, own_mono hs2.h B1.out.size, own_mono hs2.y B1.out.size, hs2.a12, B1.out.trans (hs2.bel.mono B1.out.size)⟩
 obtain ⟨A3, c3, rfl⟩ := own_slice hs3.y
 have zz : w2.cell? ⟨g, 7, none⟩ = some (.slice A3 s.says.length c3) := hs3.blk.cells 7
 have S2 := hid hs3
 clear hs2 hs3 z1 z2 z3 z4
 go_wp2_with fail
 go_ret2
 exact ⟨A3, c3, by rw [HR.out] <;> rfl, by rw [HR.out]; exact S2.out.y, S2.out.bel⟩
end Go.Proofs.Ythejnpignlhgiaa.Siw
-- squeezed
