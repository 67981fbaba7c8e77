import Derived.Test.YtibadkjdchdnjaaKka
import Derived.Test.YtibadkjdchdnjaaIrp
import Derived.Deep.RegionWith
set_option linter.all false
namespace Go.Proofs.Ytibadkjdchdnjaa.Kkb
open Lib (hid)
open Go.ChangeShapes Go.WideShapes Go.ChangeAt Go.RowKit
open PL Mem Srun Sst To OwnS AskP StpS Res Swhole Sout IntsP LawI LawN PArgP Kpp Kfg Kkp Kka
def keepOk (p : Pg) (f : Int) (js : List Int) (fuel li sp : Int) : Bool := asks p f 0 fuel && areJ js && okWatch li sp
def keepR (p : Pg) (f : Int) (js : List Int) (fuel li sp : Int) : KS × Bool := if keepOk p f js fuel li sp = true then (keepGo (fun j => run p fuel f j) li sp js k0, true) else (k0, false)
theorem keep_in {p : Pg} {f : Int} {js : List Int} {fuel li sp : Int} (h : keepOk p f js fuel li sp = true) : KIn (keepGo (fun j => run p fuel f j) li sp js k0).kinds.length (keepGo (fun j => run p fuel f j) li sp js k0) ∧ (keepGo (fun j => run p fuel f j) li sp js k0).kinds.length ≤ 20 := by
 unfold keepOk at h
 simp only [Bool.and_eq_true] at h
 obtain ⟨h1, h2⟩ := areJ_iff h.1.2
 obtain ⟨q, hq, hk⟩ := keepGo_in (r := fun j => run p fuel f j) (limit := li) (span := sp) js 0 k0 KIn.zero (fun j hj => by
  obtain ⟨i, hi, rfl⟩ := List.getElem_of_mem hj
  exact tells (asks_any h.1.1 _ (h2 i _ (List.getElem?_eq_getElem hi))))
 have := hk.kinds
 rw [this]
 exact ⟨hk, by omega⟩
theorem keepR_len (p : Pg) (f : Int) (js : List Int) (fuel li sp : Int) : (keepR p f js fuel li sp).1.kinds.length ≤ 100000 ∧ (keepR p f js fuel li sp).1.fails.length ≤ 100000 := by
 unfold keepR
 split
 ·rename_i h
  obtain ⟨h1, h2⟩ := keep_in h
  have := h1.fails
  exact ⟨by dsimp only; omega, by dsimp only; omega⟩
 ·exact ⟨by decide, by decide⟩
def KeeperR (r : KS × Bool) (li : Int) (w : World) (e : Ending) (w' : World) : Prop :=
 ∃ (kb : Nat) (fv : Value) (sp' : Int) (Ak : Option Addr) (ck : Nat) (Af : Option Addr) (cf : Nat), e = .returned (.tuple #[.pointer (some ⟨kb, 0, none⟩), .bool r.2]) ∧ Blk w' kb 123 #[fv, .int .i64 (if r.2 = true then li else 0), .int .i64 sp', .int .i64 r.1.clock, .slice Ak r.1.kinds.length ck, .slice Af r.1.fails.length cf, .int .i64 r.1.most] ∧
  OwnI w' w.heap.size (.slice Ak r.1.kinds.length ck) r.1.kinds ∧ OwnI w' w.heap.size (.slice Af r.1.fails.length cf) r.1.fails ∧ Below w.heap.size w w'
set_option maxRecDepth 100000 in
set_option maxHeartbeats 8000000 in
theorem keeperOf_any (lo n c nj cj : Nat) (A Aj : Option Addr) (p : Pg) (f : Int) (js : List Int) (fuel li sp : Int) (hn : n ≤ 9223372036854775807) (hl : p.length = n) (hsm : Small p 9223372036854775807) (hnj : nj ≤ 9223372036854775807) (hlj : js.length = nj) (w : World) (ho : OwnP w lo (.slice A n c) p) (hj : RdI w w.heap.size Aj js) :
  Calls Try.prog 82 #[.agg #[.slice A n c], .int .i64 f, .slice Aj nj cj, .int .i64 fuel, .agg #[.int .i64 li, .int .i64 sp]] w (KeeperR (keepR p f js fuel li sp) li w) := by
 have hq := hid (fun W (h : Below w.heap.size w W) => canRun_any w.heap.size A n c p f 0 fuel hn hl hsm W (ho.rd.below h) h.size)
 have hja := hid (fun W (h : Below w.heap.size w W) => areJobs_any w.heap.size Aj nj cj js hnj hlj W (hj.below h))
 have hwa := hid (fun W => isWatch_any li sp W)
 have hk : keepOk p f js fuel li sp = (asks p f 0 fuel && areJ js && okWatch li sp) := rfl
 have hr0 : keepR p f js fuel li sp = if keepOk p f js fuel li sp = true then (keepGo (fun j => run p fuel f j) li sp js k0, true) else (k0, false) := rfl
 cases ha : asks p f 0 fuel with
 | false =>
  rw [hk, ha] at hr0
  rw [ha] at hq
  have hr := hid (hr0.trans (if_neg (by simp)))
  clear ho hj hsm hr0 hk ha
  go_enter Try.func82, Try.ntmps82
  go_upto_region 1 with fail
  change (fun V => Code.wp _ _ _ _ V) _
  refine gen_world (X := fun V => Blk V w.heap.size 44 #[.slice A n c] ∧ Blk V (w.heap.size + 1) 71 #[.int .i64 li, .int .i64 sp] ∧ Below w.heap.size w V) ⟨heap2_0 w _ _, heap2_1 w _ _, ((Below.refl _ _).alloc (Nat.le_refl _) _).alloc (by simp) _⟩ ?_
  rintro w1 ⟨x1, y1, b1⟩
  have l1 := y1.lt
  have z1 : w1.cell? ⟨w.heap.size, 0, none⟩ = some (.slice A n c) := x1.cells 0
  have zy := y1.cells
  have X := hid x1
  have Y := hid y1
  have HB := hid b1
  clear x1 y1 b1
  go_wp2_with fail
  refine (hq.out _ HB.out).mono ?_
  rintro e w2 ⟨rfl, b2⟩
  have s2 := b2.size
  replace X := hid (X.out.below b2 (by omega))
  replace Y := hid (Y.out.below b2 (by omega))
  replace HB := hid (HB.out.trans (b2.mono HB.out.size))
  clear b2
  go_wp2_with fail
  go_ret2
  exact ⟨w2.heap.size, _, _, _, _, _, _, by rw [hr.out] <;> rfl, by rw [hr.out]; exact heap1_0 w2 _, by rw [hr.out]; exact World.ownsRow_nil _ _ _ _, by rw [hr.out]; exact World.ownsRow_nil _ _ _ _, HB.out.alloc HB.out.size _⟩
 | true =>
  cases hja2 : areJ js with
  | false =>
   rw [hk, ha, hja2] at hr0
   rw [ha] at hq
   rw [hja2] at hja
   have hr := hid (hr0.trans (if_neg (by simp)))
   clear ho hj hsm hr0 hk ha hja2
   go_enter Try.func82, Try.ntmps82
   go_upto_region 1 with fail
   change (fun V => Code.wp _ _ _ _ V) _
   refine gen_world (X := fun V => Blk V w.heap.size 44 #[.slice A n c] ∧ Blk V (w.heap.size + 1) 71 #[.int .i64 li, .int .i64 sp] ∧ Below w.heap.size w V) ⟨heap2_0 w _ _, heap2_1 w _ _, ((Below.refl _ _).alloc (Nat.le_refl _) _).alloc (by simp) _⟩ ?_
   rintro w1 ⟨x1, y1, b1⟩
   have l1 := y1.lt
   have z1 : w1.cell? ⟨w.heap.size, 0, none⟩ = some (.slice A n c) := x1.cells 0
   have zy := y1.cells
   have X := hid x1
   have Y := hid y1
   have HB := hid b1
   clear x1 y1 b1
   go_wp2_with fail
   refine (hq.out _ HB.out).mono ?_
   rintro e w2 ⟨rfl, b2⟩
   have s2 := b2.size
   replace X := hid (X.out.below b2 (by omega))
   replace Y := hid (Y.out.below b2 (by omega))
   replace HB := hid (HB.out.trans (b2.mono HB.out.size))
   clear b2
   go_wp2_with fail
   refine (hja.out _ HB.out).mono ?_
   rintro e w3 ⟨rfl, rfl⟩
   go_wp2_with fail
   go_ret2
   exact ⟨w2.heap.size, _, _, _, _, _, _, by rw [hr.out] <;> rfl, by rw [hr.out]; exact heap1_0 w2 _, by rw [hr.out]; exact World.ownsRow_nil _ _ _ _, by rw [hr.out]; exact World.ownsRow_nil _ _ _ _, HB.out.alloc HB.out.size _⟩
  | true =>
   cases how : okWatch li sp with
   | false =>
    rw [hk, ha, hja2, how] at hr0
    rw [ha] at hq
    rw [hja2] at hja
    rw [how] at hwa
    have hr := hid (hr0.trans (if_neg (by simp)))
    clear ho hj hsm hr0 hk ha hja2 how
    go_enter Try.func82, Try.ntmps82
    go_upto_region 1 with fail
    change (fun V => Code.wp _ _ _ _ V) _
    refine gen_world (X := fun V => Blk V w.heap.size 44 #[.slice A n c] ∧ Blk V (w.heap.size + 1) 71 #[.int .i64 li, .int .i64 sp] ∧ Below w.heap.size w V) ⟨heap2_0 w _ _, heap2_1 w _ _, ((Below.refl _ _).alloc (Nat.le_refl _) _).alloc (by simp) _⟩ ?_
    rintro w1 ⟨x1, y1, b1⟩
    have l1 := y1.lt
    have z1 : w1.cell? ⟨w.heap.size, 0, none⟩ = some (.slice A n c) := x1.cells 0
    have zy := y1.cells
    have X := hid x1
    have Y := hid y1
    have HB := hid b1
    clear x1 y1 b1
    go_wp2_with fail
    refine (hq.out _ HB.out).mono ?_
    rintro e w2 ⟨rfl, b2⟩
    have s2 := b2.size
    replace X := hid (X.out.below b2 (by omega))
    replace Y := hid (Y.out.below b2 (by omega))
    replace HB := hid (HB.out.trans (b2.mono HB.out.size))
    clear b2
    go_wp2_with fail
    refine (hja.out _ HB.out).mono ?_
    rintro e w3 ⟨rfl, rfl⟩
    replace zy := Y.out.cells
    go_wp2_with fail
    refine (hwa.out _).mono ?_
    rintro e w4 ⟨rfl, b4⟩
    have s4 := b4.size
    replace X := hid (X.out.below b4 (by omega))
    replace Y := hid (Y.out.below b4 (by omega))
    replace HB := hid (HB.out.trans (b4.mono HB.out.size))
    clear b4
    go_wp2_with fail
    go_ret2
    exact ⟨w4.heap.size, _, _, _, _, _, _, by rw [hr.out] <;> rfl, by rw [hr.out]; exact heap1_0 w4 _, by rw [hr.out]; exact World.ownsRow_nil _ _ _ _, by rw [hr.out]; exact World.ownsRow_nil _ _ _ _, HB.out.alloc HB.out.size _⟩
   | true =>
    obtain ⟨hli, hsp⟩ := okWatch_iff how
    obtain ⟨hj20, hjn⟩ := areJ_iff hja2
    have HRUN := hid (fun (g : Nat) (i : Nat) (z : Int) (W : World) (hz : js[i]? = some z) (h : Below w.heap.size w W) (hb : RunB W g A n c f fuel) => runOf1_any lo n c g A p f z fuel hn hl hsm (asks_any ha z (hjn i z hz)) W (ho.below h) hb)
    have HTE := hid (fun (i : Nat) (z : Int) (hz : js[i]? = some z) => tells (asks_any ha z (hjn i z hz)))
    have HJ := hid hj
    have HLJ := hid hlj
    have hnj20 : nj ≤ 20 := by omega
    rw [hk, ha, hja2, how] at hr0
    rw [ha] at hq
    rw [hja2] at hja
    rw [how] at hwa
    have hr := hid (hr0.trans (if_pos rfl))
    clear ho hj hsm hr0 hk ha hja2 how hjn hlj hj20
    go_enter Try.func82, Try.ntmps82
    go_upto_region 1 with fail
    change (fun V => Code.wp _ _ _ _ V) _
    refine gen_world (X := fun V => Blk V w.heap.size 44 #[.slice A n c] ∧ Blk V (w.heap.size + 1) 71 #[.int .i64 li, .int .i64 sp] ∧ Below w.heap.size w V) ⟨heap2_0 w _ _, heap2_1 w _ _, ((Below.refl _ _).alloc (Nat.le_refl _) _).alloc (by simp) _⟩ ?_
    rintro w1 ⟨x1, y1, b1⟩
    have l1 := y1.lt
    have z1 : w1.cell? ⟨w.heap.size, 0, none⟩ = some (.slice A n c) := x1.cells 0
    have zy := y1.cells
    have X := hid x1
    have Y := hid y1
    have HB := hid b1
    clear x1 y1 b1
    go_wp2_with fail
    refine (hq.out _ HB.out).mono ?_
    rintro e w2 ⟨rfl, b2⟩
    have s2 := b2.size
    replace X := hid (X.out.below b2 (by omega))
    replace Y := hid (Y.out.below b2 (by omega))
    replace HB := hid (HB.out.trans (b2.mono HB.out.size))
    clear b2
    go_wp2_with fail
    refine (hja.out _ HB.out).mono ?_
    rintro e w3 ⟨rfl, rfl⟩
    replace zy := Y.out.cells
    go_wp2_with fail
    refine (hwa.out _).mono ?_
    rintro e w4 ⟨rfl, b4⟩
    have s4 := b4.size
    replace X := hid (X.out.below b4 (by omega))
    replace Y := hid (Y.out.below b4 (by omega))
    replace HB := hid (HB.out.trans (b4.mono HB.out.size))
    clear b4
    replace zy := Y.out.cells
    replace z1 : w4.cell? ⟨w.heap.size, 0, none⟩ = some (.slice A n c) := X.out.cells 0
    have hro := hid (fun (V : World) (b : Below w4.heap.size w4 V) => (runOf_any A n c f fuel V).mono (fun e w' (h : e = .returned (runV V.heap.size) ∧ RunB w' V.heap.size A n c f fuel ∧ Below V.heap.size V w') =>
     show ∃ g, e = .returned (.func (.func 97) #[] #[.pointer (some ⟨g, 0, none⟩), .pointer (some ⟨g + 1, 0, none⟩), .pointer (some ⟨g + 2, 0, none⟩)]) ∧ RunB w' g A n c f fuel ∧ (∀ o, w'.cell? ⟨w.heap.size + 1, o, none⟩ = (#[.int .i64 li, .int .i64 sp] : Array Value)[o]?) ∧ Below w.heap.size w w' from
      ⟨V.heap.size, h.1, h.2.1, ((Y.out.below b Y.out.lt).below h.2.2 (Nat.lt_of_lt_of_le Y.out.lt b.size)).cells, (HB.out.trans (b.mono HB.out.size)).trans (h.2.2.mono (HB.out.trans (b.mono HB.out.size)).size)⟩))
    go_wp2_with fail
    go_region_with (first | (go_at_call 64; refine (hro.out _ ?_).mono ?_; (first | exact (Below.refl _ _).drew | exact Below.refl _ _); rintro e w5 ⟨g, rfl, rb, zy5, b5⟩))
    all_goals (
     first | change (fun V => Exit.then _ _ _ _ V) _ | change (fun V => Code.wp _ _ _ _ V) _
     refine gen_world (X := fun V => Blk V w5.heap.size 123 (kc g li sp k0 (.slice none 0 0) (.slice none 0 0)) ∧ RunB V g A n c f fuel ∧ Below w.heap.size w V ∧ g + 2 < w5.heap.size ∧ w.heap.size ≤ w5.heap.size ∧ w5.heap.size < V.heap.size) ⟨heap1_0 w5 _, rb.below ((Below.refl w5.heap.size w5).alloc (Nat.le_refl _) _) rb.lt, b5.alloc b5.size _, rb.lt, b5.size, by simp⟩ ?_
     clear rb zy5 b5 zy z1 hro
     rintro w6 ⟨v1, v2, v3, l3, l4, l5⟩
     generalize w5.heap.size = kb at *
     have hra := hid (runAll_any kb kb g nj cj Aj js li sp (fun j => run p fuel f j) hnj20 HLJ.out hli hsp w6 (by omega) (Nat.le_refl _) (fun i z W hz b => HRUN.out g i z W hz (v3.trans (b.mono l4)) (v2.below b l3)) HTE.out v1 ((HJ.out.below v3).more l4))
     have HB6 := hid v3
     clear v1 v2 v3 HRUN HTE HJ HLJ X Y HB
     generalize keepGo (fun j => run p fuel f j) li sp js k0 = R at *
     go_wp2_with fail
     refine hra.out.mono ?_
     rintro e w7 ⟨rfl, vk, vf, h7⟩
     obtain ⟨Ak, ck, rfl⟩ := own_slice h7.two.kinds
     obtain ⟨Af, cf, rfl⟩ := own_slice h7.two.fails
     have H7 := hid h7
     have s7 := h7.chg.size
     clear h7 hra
     go_wp2_with fail
     go_ret2
     exact ⟨kb, _, _, Ak, ck, Af, cf, by rw [hr.out] <;> rfl, by rw [hr.out]; exact H7.out.blk, by rw [hr.out]; exact own_mono H7.out.two.kinds HB6.out.size, by rw [hr.out]; exact own_mono H7.out.two.fails HB6.out.size, HB6.out.trans (H7.out.chg.below HB6.out.size (fun x hx e => by omega))⟩)
def keptR (p : Pg) (f : Int) (js : List Int) (fuel li sp : Int) : List Int × Int × Bool × Bool := ((keepR p f js fuel li sp).1.kinds, (keepR p f js fuel li sp).1.clock, (keepR p f js fuel li sp).2 && decide (li < (keepR p f js fuel li sp).1.most), (keepR p f js fuel li sp).2)
def KeptR (r : List Int × Int × Bool × Bool) (w : World) (e : Ending) (w' : World) : Prop :=
 ∃ A c, e = .returned (.tuple #[.slice A r.1.length c, .int .i64 r.2.1, .bool r.2.2.1, .bool r.2.2.2]) ∧ OwnI w' w.heap.size (.slice A r.1.length c) r.1 ∧ Below w.heap.size w w'
def failsR (p : Pg) (f : Int) (js : List Int) (fuel li sp : Int) : List Int × Bool := ((keepR p f js fuel li sp).1.fails, (keepR p f js fuel li sp).2)
def limitR (p : Pg) (f : Int) (js : List Int) (fuel sp : Int) : Int × Bool := ((keepR p f js fuel 20 sp).1.most, (keepR p f js fuel 20 sp).2)
set_option maxRecDepth 100000 in
set_option maxHeartbeats 4000000 in
theorem failsI_any (lo n c nj cj : Nat) (A Aj : Option Addr) (p : Pg) (f : Int) (js : List Int) (fuel li sp : Int) (hn : n ≤ 9223372036854775807) (hl : p.length = n) (hsm : Small p 9223372036854775807) (hnj : nj ≤ 9223372036854775807) (hlj : js.length = nj) (w : World) (ho : OwnP w lo (.slice A n c) p) (hj : RdI w w.heap.size Aj js) :
  Calls Try.prog 49 #[.agg #[.slice A n c], .int .i64 f, .slice Aj nj cj, .int .i64 fuel, .agg #[.int .i64 li, .int .i64 sp]] w (IntsR (failsR p f js fuel li sp) w) := by
 have hk := hid (fun W (h : Below w.heap.size w W) => keeperOf_any lo n c nj cj A Aj p f js fuel li sp hn hl hsm hnj hlj W (ho.below h) ((hj.below h).more h.size))
 unfold failsR
 clear ho hj hsm
 generalize keepR p f js fuel li sp = r at *
 obtain ⟨s, b⟩ := r
 go_enter Try.func49, Try.ntmps49
 go_upto_region 1 with fail
 change (fun V => Code.wp _ _ _ _ V) _
 refine gen_world (X := fun V => Blk V w.heap.size 44 #[.slice A n c] ∧ Blk V (w.heap.size + 1) 71 #[.int .i64 li, .int .i64 sp] ∧ Below w.heap.size w V) ⟨heap2_0 w _ _, heap2_1 w _ _, ((Below.refl _ _).alloc (Nat.le_refl _) _).alloc (by simp) _⟩ ?_
 rintro w1 ⟨x1, y1, b1⟩
 have zs : (w1.cell? ⟨w.heap.size, 0, none⟩ = some (.slice A n c)) ∧ (w1.cell? ⟨w.heap.size + 1, 0, none⟩ = some (.int .i64 li)) ∧ (w1.cell? ⟨w.heap.size + 1, 1, none⟩ = some (.int .i64 sp)) := ⟨x1.cells 0, y1.cells 0, y1.cells 1⟩
 obtain ⟨zs, zs1, zs2⟩ := zs
 have HB := hid b1
 clear x1 y1 b1
 go_wp2_with fail
 refine (hk.out _ HB.out).mono ?_
 rintro e w2 ⟨kb, fv, sp', Ak, ck, Af, cf, rfl, kb2, ok2, of2, b2⟩
 have HB2 := hid (HB.out.trans (b2.mono HB.out.size))
 have KB := hid kb2
 have OK2 := hid (own_mono ok2 HB.out.size)
 have OF2 := hid (own_mono of2 HB.out.size)
 clear b2 ok2 of2 zs
 dsimp only at kb2 ⊢
 have z5 : w2.cell? ⟨kb, 5, none⟩ = some (.slice Af s.fails.length cf) := kb2.cells 5
 clear kb2
 go_wp2_with fail
 go_ret2
 exact ⟨Af, cf, rfl, OF2.out, HB2.out⟩
set_option maxRecDepth 100000 in
set_option maxHeartbeats 4000000 in
theorem limitI_any (lo n c nj cj : Nat) (A Aj : Option Addr) (p : Pg) (f : Int) (js : List Int) (fuel sp : Int) (hn : n ≤ 9223372036854775807) (hl : p.length = n) (hsm : Small p 9223372036854775807) (hnj : nj ≤ 9223372036854775807) (hlj : js.length = nj) (w : World) (ho : OwnP w lo (.slice A n c) p) (hj : RdI w w.heap.size Aj js) :
  Calls Try.prog 51 #[.agg #[.slice A n c], .int .i64 f, .slice Aj nj cj, .int .i64 fuel, .int .i64 sp] w (NumR (limitR p f js fuel sp) w) := by
 have hk := hid (fun W (h : Below w.heap.size w W) => keeperOf_any lo n c nj cj A Aj p f js fuel 20 sp hn hl hsm hnj hlj W (ho.below h) ((hj.below h).more h.size))
 unfold limitR
 clear ho hj hsm
 generalize keepR p f js fuel 20 sp = r at *
 obtain ⟨s, b⟩ := r
 go_enter Try.func51, Try.ntmps51
 go_upto_region 1 with fail
 change (fun V => Code.wp _ _ _ _ V) _
 refine gen_world (X := fun V => Blk V w.heap.size 44 #[.slice A n c] ∧ Below w.heap.size w V) ⟨heap1_0 w _, (Below.refl _ _).alloc (Nat.le_refl _) _⟩ ?_
 rintro w1 ⟨x1, b1⟩
 have zs : w1.cell? ⟨w.heap.size, 0, none⟩ = some (.slice A n c) := x1.cells 0
 have HB := hid b1
 have y1 := x1
 clear x1 y1 b1
 go_wp2_with fail
 refine (hk.out _ HB.out).mono ?_
 rintro e w2 ⟨kb, fv, sp', Ak, ck, Af, cf, rfl, kb2, ok2, of2, b2⟩
 have HB2 := hid (HB.out.trans (b2.mono HB.out.size))
 have KB := hid kb2
 have OK2 := hid (own_mono ok2 HB.out.size)
 have OF2 := hid (own_mono of2 HB.out.size)
 clear b2 ok2 of2 zs
 dsimp only at kb2 ⊢
 have z6 : w2.cell? ⟨kb, 6, none⟩ = some (.int .i64 s.most) := kb2.cells 6
 clear kb2
 go_wp2_with fail
 go_ret2
 exact ⟨rfl, HB2.out⟩
theorem givenRaw_any {kb : Nat} {fv vk vf : Value} {li sp cl mo : Int} {W : World} (h : Blk W kb 123 #[fv, .int .i64 li, .int .i64 sp, .int .i64 cl, vk, vf, .int .i64 mo]) :
  Calls Try.prog 83 #[.pointer (some ⟨kb, 0, none⟩)] W fun e W' => e = .returned (.bool (decide (li < mo))) ∧ Below W.heap.size W W' := by
 have z1 : W.cell? ⟨kb, 1, none⟩ = some (.int .i64 li) := h.cells 1
 have z6 : W.cell? ⟨kb, 6, none⟩ = some (.int .i64 mo) := h.cells 6
 clear h
 go_enter Try.func83, Try.ntmps83
 go_wp2_with fail
 go_region
 go_wp2_with fail
 go_ret
 exact ⟨rfl, (Below.refl _ _).drew⟩
theorem keepR_most (p : Pg) (f : Int) (js : List Int) (fuel li sp : Int) : (keepR p f js fuel li sp).2 = false → (keepR p f js fuel li sp).1.most = 0 := by
 unfold keepR
 split
 ·intro h; cases h
 ·intro _; rfl
set_option maxRecDepth 100000 in
set_option maxHeartbeats 4000000 in
theorem keptI_any (lo n c nj cj : Nat) (A Aj : Option Addr) (p : Pg) (f : Int) (js : List Int) (fuel li sp : Int) (hn : n ≤ 9223372036854775807) (hl : p.length = n) (hsm : Small p 9223372036854775807) (hnj : nj ≤ 9223372036854775807) (hlj : js.length = nj) (w : World) (ho : OwnP w lo (.slice A n c) p) (hj : RdI w w.heap.size Aj js) :
  Calls Try.prog 47 #[.agg #[.slice A n c], .int .i64 f, .slice Aj nj cj, .int .i64 fuel, .agg #[.int .i64 li, .int .i64 sp]] w (KeptR (keptR p f js fuel li sp) w) := by
 have hk := hid (fun W (h : Below w.heap.size w W) => keeperOf_any lo n c nj cj A Aj p f js fuel li sp hn hl hsm hnj hlj W (ho.below h) ((hj.below h).more h.size))
 unfold keptR
 have hm0 := keepR_most p f js fuel li sp
 clear ho hj hsm
 generalize keepR p f js fuel li sp = r at *
 obtain ⟨s, b⟩ := r
 go_enter Try.func47, Try.ntmps47
 go_upto_region 1 with fail
 change (fun V => Code.wp _ _ _ _ V) _
 refine gen_world (X := fun V => Blk V w.heap.size 44 #[.slice A n c] ∧ Blk V (w.heap.size + 1) 71 #[.int .i64 li, .int .i64 sp] ∧ Below w.heap.size w V) ⟨heap2_0 w _ _, heap2_1 w _ _, ((Below.refl _ _).alloc (Nat.le_refl _) _).alloc (by simp) _⟩ ?_
 rintro w1 ⟨x1, y1, b1⟩
 have zs : (w1.cell? ⟨w.heap.size, 0, none⟩ = some (.slice A n c)) ∧ (w1.cell? ⟨w.heap.size + 1, 0, none⟩ = some (.int .i64 li)) ∧ (w1.cell? ⟨w.heap.size + 1, 1, none⟩ = some (.int .i64 sp)) := ⟨x1.cells 0, y1.cells 0, y1.cells 1⟩
 obtain ⟨zs, zs1, zs2⟩ := zs
 have HB := hid b1
 clear x1 y1 b1
 go_wp2_with fail
 refine (hk.out _ HB.out).mono ?_
 rintro e w2 ⟨kb, fv, sp', Ak, ck, Af, cf, rfl, kb2, ok2, of2, b2⟩
 have HB2 := hid (HB.out.trans (b2.mono HB.out.size))
 have KB := hid kb2
 have OK2 := hid (own_mono ok2 HB.out.size)
 have OF2 := hid (own_mono of2 HB.out.size)
 clear b2 ok2 of2 zs
 dsimp only at kb2 ⊢
 have hgv : decide ((if b = true then li else 0) < s.most) = (b && decide (li < s.most)) := by
  cases b with
  | false => rw [show s.most = 0 from hm0 rfl]; rfl
  | true => rfl
 have HGV := hid hgv
 have hG := hid (fun (V : World) (bb : Below w2.heap.size w2 V) => (givenRaw_any (kb2.below bb kb2.lt)).mono (fun e w' (h : e = .returned (.bool (decide ((if b = true then li else 0) < s.most))) ∧ Below V.heap.size V w') =>
  show e = .returned (.bool (b && decide (li < s.most))) ∧ Below w2.heap.size w2 w' ∧ w'.cell? ⟨kb, 4, none⟩ = some (.slice Ak s.kinds.length ck) ∧ w'.cell? ⟨kb, 3, none⟩ = some (.int .i64 s.clock) from
   ⟨by rw [h.1, hgv], bb.trans (h.2.mono bb.size), ((kb2.below bb kb2.lt).below h.2 (Nat.lt_of_lt_of_le kb2.lt bb.size)).cells 4, ((kb2.below bb kb2.lt).below h.2 (Nat.lt_of_lt_of_le kb2.lt bb.size)).cells 3⟩))
 have z4 : w2.cell? ⟨kb, 4, none⟩ = some (.slice Ak s.kinds.length ck) := kb2.cells 4
 have z3 : w2.cell? ⟨kb, 3, none⟩ = some (.int .i64 s.clock) := kb2.cells 3
 clear kb2 hm0 hgv
 generalize (b && decide (li < s.most)) = gv at *
 go_wp2_with fail
 go_region_with (first | (go_at_call 83; refine (hG.out _ ?_).mono ?_; (first | exact (Below.refl _ _).drew | exact Below.refl _ _); rintro e w3 ⟨rfl, b3, z43, z33⟩))
 all_goals (
  go_wp2_with fail
  exact bodyPost_ret (v := .tuple #[.slice Ak s.kinds.length ck, .int .i64 s.clock, .bool gv, .bool b]) (by simp [results, Try.results47, go_sem]) rfl ⟨Ak, ck, rfl, own_below OK2.out b3 (Nat.le_refl _), HB2.out.trans (b3.mono HB2.out.size)⟩)
end Go.Proofs.Ytibadkjdchdnjaa.Kkb
-- squeezed
