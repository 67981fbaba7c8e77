import Derived.Test.YtibadkjdchdnjaaKkb
import Derived.Test.YtibadkjdchdnjaaKrt
set_option linter.all false
namespace Go.Proofs.Ytibadkjdchdnjaa.Kks
open Lib (hid)
open Go.ChangeShapes Go.WideShapes Go.ChangeAt Go.RowKit
open PL Mem Srun Sst To OwnS AskP StpS Res Swhole Sout IntsP LawI LawN PArgP Kpp Kkp Kka Kkb Krt
theorem box4 {W0 w' : World} {cs : Array Value} {t : TypeId} (c : Below (W0.alloc (.cells cs t)).heap.size (W0.alloc (.cells cs t)) w') : Blk w' W0.heap.size t cs := Blk.below (heap1_0 W0 _) c (by simp)
theorem box4D {W0 w' : World} {cs : Array Value} {t : TypeId} (c : Below (W0.alloc (.cells cs t)).drew.heap.size (W0.alloc (.cells cs t)).drew w') : Blk w' W0.heap.size t cs := box4 (((Below.refl _ _).drew).trans c)
set_option maxRecDepth 100000 in
set_option maxHeartbeats 4000000 in
theorem l8Jobs_any (n c nj cj B : Nat) (A Aj : Option Addr) (p : Pg) (f : Int) (js : List Int) (fuel : Int) (hn : n ≤ 9223372036854775807) (hl : p.length = n) (hsm : Small p 9223372036854775807) (hnj : nj ≤ 9223372036854775807) (hlj : js.length = nj) (w : World) (hp : RdP w B A p) (hj : RdI w B Aj js) (hB : B ≤ w.heap.size) :
  Calls Try.prog 79 #[.agg #[.slice A n c], .int .i64 f, .slice Aj nj cj, .int .i64 fuel] w fun e w' => e = .returned (.bool (asks p f 0 fuel && areJ js)) ∧ Below w.heap.size w w' := by
 have hq := hid (fun W (h : Below w.heap.size w W) => l2Ask_any B A n c p f 0 fuel hn hl hsm W (hp.below (h.mono hB)) (Nat.le_trans hB h.size))
 have hR := hid hj
 have hL := hid hlj
 have hN := hid (fun z W => l2Number_any z W)
 clear hp hj hlj hsm
 go_enter Try.func79, Try.ntmps79
 go_upto_region 1 with fail
 change (fun V => Code.wp _ _ _ _ V) _
 refine gen_world (X := fun V => Blk V w.heap.size 44 #[.slice A n c] ∧ Below w.heap.size w V) ⟨heap1_0 w _, (Below.refl _ _).alloc (Nat.le_refl _) _⟩ ?_
 rintro w1 ⟨x1, b1⟩
 have z1 : w1.cell? ⟨w.heap.size, 0, none⟩ = some (.slice A n c) := x1.cells 0
 have HB := hid b1
 have hR1 := hid (hR.out.below (b1.mono hB))
 clear x1 b1 hR
 go_wp2_with fail
 go_loop [9] (fun i => ∃ k : Nat, k ≤ nj ∧ i = .int .i64 k ∧ ∀ (j : Nat) (z : Int), j < k → js[j]? = some z → isNum z = true) (fun i => nj - (intOf i).toNat)
 case atStart => exact ⟨0, Nat.zero_le _, rfl, fun j z h => absurd h (by omega)⟩
 case round =>
  obtain ⟨k, hk, rfl, hall⟩ := hrel
  have HA := hid hall
  clear hall
  by_cases hlt : k < nj
  ·obtain ⟨z, hz⟩ : ∃ z, js[k]? = some z := ⟨_, List.getElem?_eq_getElem (by rw [hL.out]; exact hlt)⟩
   obtain ⟨ad, rfl, hab, d0⟩ := hR1.out k z hz
   have HZ := hid hz
   have hnz := hid (hN.out z)
   clear hz
   cases hb : isNum z with
   | true =>
    rw [hb] at hnz
    have HB2 := hid hb
    clear hb
    go_wp2_with fail
    refine (hnz.out _).mono ?_
    rintro e w2 ⟨rfl, rfl⟩
    go_wp2_with fail
    go_round
    case rel => exact ⟨k + 1, by omega, by go_num, fun j y hj hy => by
     rcases Nat.lt_succ_iff_lt_or_eq.1 hj with h | rfl
     ·exact HA.out j y h hy
     ·rw [HZ.out] at hy; cases hy; exact HB2.out⟩
    case measure => simp [intOf]; omega
   | false =>
    rw [hb] at hnz
    have HF := hid (show (asks p f 0 fuel && areJ js) = false by
     rw [Bool.and_eq_false_iff]
     refine .inr ?_
     unfold areJ
     rw [Bool.and_eq_false_iff]
     refine .inr ?_
     rw [List.all_eq_false]
     exact ⟨z, List.mem_of_getElem? HZ.out, by rw [hb]; decide⟩)
    clear hb
    go_wp2_with fail
    refine (hnz.out _).mono ?_
    rintro e w2 ⟨rfl, rfl⟩
    go_wp2_with fail
    go_ret
    exact ⟨by rw [HF.out] <;> rfl, HB.out⟩
  ·obtain rfl : k = nj := by omega
   have hT : js.all isNum = true := by
    rw [List.all_eq_true]
    intro z hz
    obtain ⟨j, hj, rfl⟩ := List.getElem_of_mem hz
    exact HA.out j _ (by rw [← hL.out]; exact hj) (List.getElem?_eq_getElem hj)
   have HT := hid (show (asks p f 0 fuel && areJ js) = (asks p f 0 fuel && decide (k ≤ 20)) by unfold areJ; rw [hT, hL.out, Bool.and_true])
   clear hT
   cases ha : asks p f 0 fuel with
   | false =>
    rw [ha] at hq
    have HT2 := hid (show (asks p f 0 fuel && areJ js) = false by rw [ha]; rfl)
    clear HT ha
    go_wp2_with fail
    refine (hq.out _ HB.out).mono ?_
    rintro e w2 ⟨rfl, b2⟩
    go_wp2_with fail
    go_ret
    exact ⟨by rw [HT2.out] <;> rfl, HB.out.trans (b2.mono HB.out.size)⟩
   | true =>
    rw [ha] at hq
    by_cases h20 : k ≤ 20
    ·have HT2 := hid (show (asks p f 0 fuel && areJ js) = true by rw [HT.out, ha, decide_eq_true h20]; rfl)
     clear HT ha
     go_wp2_with fail
     refine (hq.out _ HB.out).mono ?_
     rintro e w2 ⟨rfl, b2⟩
     go_wp2_with fail
     go_ret
     exact ⟨by rw [HT2.out]; show Ending.returned (Value.bool (decide ((k : Int) ≤ 20))) = _; rw [decide_eq_true (by omega)], HB.out.trans (b2.mono HB.out.size)⟩
    ·have HT2 := hid (show (asks p f 0 fuel && areJ js) = false by rw [HT.out, ha, decide_eq_false h20]; rfl)
     have hcb : decide (k ≤ 20) = false := decide_eq_false h20
     clear HT ha
     go_wp2_with fail
     refine (hq.out _ HB.out).mono ?_
     rintro e w2 ⟨rfl, b2⟩
     go_wp2_with fail
     go_ret
     exact ⟨by rw [HT2.out]; first | rfl | (show Ending.returned (Value.bool (decide ((k : Int) ≤ 20))) = _; rw [decide_eq_false (by omega)]), HB.out.trans (b2.mono HB.out.size)⟩
structure Ko (w1 : World) (lo ob : Nat) (s : KS) (gv : Bool) (vk vf : Value) (W : World) : Prop where
 blk : Blk W ob 117 #[vk, vf, .int .i64 s.clock, .bool gv]
 two : Two lo s.kinds s.fails vk vf W
 chg : Chg (fun k => lo ≤ k) w1 W
section
variable {w1 W W' : World} {lo ob : Nat} {s s' : KS} {gv : Bool} {vk vf : Value}
theorem Ko.drew (h : Ko w1 lo ob s gv vk vf W) : Ko w1 lo ob s gv vk vf W.drew := ⟨h.blk, h.two.drew, h.chg.trans (Chg.drew (fun _ => False) W) (fun _ _ hx => hx.elim)⟩
theorem Ko.alloc (h : Ko w1 lo ob s gv vk vf W) (o : Obj) : Ko w1 lo ob s gv vk vf (W.alloc o) := ⟨h.blk.alloc o, h.two.alloc o, h.chg.new o⟩
theorem Ko.below (h : Ko w1 lo ob s gv vk vf W) (b : Below W.heap.size W W') : Ko w1 lo ob s gv vk vf W' := ⟨h.blk.below b h.blk.lt, h.two.below b, h.chg.trans (Chg.of_below (C := fun _ => False) b) (fun _ _ hx => hx.elim)⟩
theorem Ko.clock (h : Ko w1 lo ob s gv vk vf W) (ho : lo ≤ ob) (hs : s'.kinds = s.kinds) (hf : s'.fails = s.fails) : Ko w1 lo ob s' gv vk vf (W.setCell ⟨ob, 2, none⟩ (.int .i64 s'.clock)) :=
 ⟨by simpa only [List.setIfInBounds_toArray, List.set_cons_zero, List.set_cons_succ] using h.blk.put 2 (.int .i64 s'.clock), by rw [hs, hf]; exact h.two.far h.blk (by decide) _ _, h.chg.put _ _ (.inr ho)⟩
theorem Ko.gave (h : Ko w1 lo ob s gv vk vf W) (ho : lo ≤ ob) (g' : Bool) (hs : s'.kinds = s.kinds) (hf : s'.fails = s.fails) (hc : s'.clock = s.clock) : Ko w1 lo ob s' g' vk vf (W.setCell ⟨ob, 3, none⟩ (.bool g')) :=
 ⟨by rw [hc]; simpa only [List.setIfInBounds_toArray, List.set_cons_zero, List.set_cons_succ] using h.blk.put 3 (.bool g'), by rw [hs, hf]; exact h.two.far h.blk (by decide) _ _, h.chg.put _ _ (.inr ho)⟩
theorem Ko.pushK {v1 : Value} {v : Int} (h : Ko w1 lo ob s gv vk vf W) (ho : lo ≤ ob) (hc : Chg (fun y => vk.ownBlock = some y) W W') (hr : W'.ownsRow lo 3 1 v1 (s.kinds.length + 1) (cellsI s.kinds ++ [.int .i64 v])) (hg : v1.ownBlock = vk.ownBlock ∨ ∃ x, v1.ownBlock = some x ∧ W.heap.size ≤ x) :
  Ko w1 lo ob { s with kinds := s.kinds ++ [v] } gv v1 vf (W'.setCell ⟨ob, 0, none⟩ v1) := by
 have hb := h.blk.chg hc (blk_apart h.two.kinds h.blk (by decide))
 refine ⟨?_, (h.two.pushK hc hr hg).far hb (by decide) _ _, (h.chg.trans hc (fun x hx e => (World.ownsRow.lt h.two.kinds x e).1)).put _ _ (.inr ho)⟩
 simpa only [List.setIfInBounds_toArray, List.set_cons_zero, List.set_cons_succ] using hb.put 0 v1
theorem Ko.pushF {v1 : Value} {v : Int} (h : Ko w1 lo ob s gv vk vf W) (ho : lo ≤ ob) (hc : Chg (fun y => vf.ownBlock = some y) W W') (hr : W'.ownsRow lo 3 1 v1 (s.fails.length + 1) (cellsI s.fails ++ [.int .i64 v])) (hg : v1.ownBlock = vf.ownBlock ∨ ∃ x, v1.ownBlock = some x ∧ W.heap.size ≤ x) :
  Ko w1 lo ob { s with fails := s.fails ++ [v] } gv vk v1 (W'.setCell ⟨ob, 1, none⟩ v1) := by
 have hb := h.blk.chg hc (blk_apart h.two.fails h.blk (by decide))
 refine ⟨?_, (h.two.pushF hc hr hg).far hb (by decide) _ _, (h.chg.trans hc (fun x hx e => (World.ownsRow.lt h.two.fails x e).1)).put _ _ (.inr ho)⟩
 simpa only [List.setIfInBounds_toArray, List.set_cons_zero, List.set_cons_succ] using hb.put 1 v1
end
def KeptS (s : KS) (li : Int) (w : World) (e : Ending) (w' : World) : Prop :=
 ∃ (Ak : Option Addr) (ck : Nat) (Af : Option Addr) (cf : Nat), e = .returned (.agg #[.slice Ak s.kinds.length ck, .slice Af s.fails.length cf, .int .i64 s.clock, .bool (decide (li < s.most))]) ∧ OwnI w' w.heap.size (.slice Ak s.kinds.length ck) s.kinds ∧ OwnI w' w.heap.size (.slice Af s.fails.length cf) s.fails ∧ Below w.heap.size w w'
set_option maxRecDepth 100000 in
set_option maxHeartbeats 4000000 in
theorem l8Keep_any (lo n c nj cj : Nat) (A Aj : Option Addr) (p : Pg) (f : Int) (js : List Int) (fuel li sp : Int) (hl : p.length = n) (hlj : js.length = nj) (hok : keepOk p f js fuel li sp = true) (w : World) (ho : OwnP w lo (.slice A n c) p) (hj : RdI w w.heap.size Aj js) :
  Calls Try.prog 81 #[.agg #[.slice A n c], .int .i64 f, .slice Aj nj cj, .int .i64 fuel, .agg #[.int .i64 li, .int .i64 sp]] w (KeptS (keepGo (fun j => run p fuel f j) li sp js k0) li w) := by
 obtain ⟨i0, hi, hz0, hz1, hz2⟩ := info_parts info3
 obtain ⟨⟨hask, hjs⟩, hwok⟩ : (asks p f 0 fuel = true ∧ areJ js = true) ∧ okWatch li sp = true := by unfold keepOk at hok; simpa only [Bool.and_eq_true] using hok
 obtain ⟨hli, hsp⟩ := okWatch_iff hwok
 obtain ⟨hj20, hjn⟩ := areJ_iff hjs
 have hn6 := okProg_small (start_wf (n := n) hask).1
 have hru := hid (fun (i : Nat) (z : Int) (hz : js[i]? = some z) W (h : Below w.heap.size w W) => l2Run_any lo n c A p f z fuel hl (hn6.2.mono (by omega)) (by omega) (asks_any hask z (hjn i z hz)) W (ho.below h))
 have HT := hid (fun (i : Nat) (z : Int) (hz : js[i]? = some z) => tells (asks_any hask z (hjn i z hz)))
 have HJ := hid hj
 have HL := hid hlj
 have hen := hid (fun k v s At nt ct W => l8Ends_any k v s At nt ct W)
 have hnj : nj ≤ 20 := by omega
 obtain ⟨R, hR⟩ : ∃ R, keepGo (fun j => run p fuel f j) li sp js k0 = R := ⟨_, rfl⟩
 have HRR := hid (show keepGo (fun j => run p fuel f j) li sp (js.drop 0) k0 = R from hR)
 rw [hR]
 clear hok hask hjs hwok hjn hn6 ho hj hlj hj20 hR
 go_enter Try.func81, Try.ntmps81
 go_upto_region 1 with fail
 change (fun V => Code.wp _ _ _ _ V) _
 refine gen_world (X := fun V => Blk V w.heap.size 44 #[.slice A n c] ∧ Blk V (w.heap.size + 1) 71 #[.int .i64 li, .int .i64 sp] ∧ Blk V (w.heap.size + 2) 117 #[.slice none 0 0, .slice none 0 0, .int .i64 0, .bool false] ∧ Below w.heap.size w V) ⟨heap3_0 w _ _ _, heap3_1 w _ _ _, heap3_2 w _ _ _, (((Below.refl _ _).alloc (Nat.le_refl _) _).alloc (by simp) _).alloc (by simp; omega) _⟩ ?_
 rintro w1 ⟨x1, y1, r1, b1⟩
 have l1 := r1.lt
 have X := hid x1
 have Y := hid y1
 have Z := hid r1
 have HB := hid b1
 clear x1 y1 r1 b1
 go_upto_region 2 with fail
 change (fun V => Code.wp _ _ _ _ V) _
 refine gen_world (X := fun V => Ko w1 w1.heap.size (w1.heap.size + 2) k0 false (.slice (some ⟨w1.heap.size, 0, none⟩) 0 0) (.slice (some ⟨w1.heap.size + 1, 0, none⟩) 0 0) V ∧ w1.heap.size + 2 < V.heap.size) ⟨⟨heap3_2 w1 _ _ _, ⟨App.empty_own (heap3_0 w1 _ _ _) (Nat.le_refl _), App.empty_own (heap3_1 w1 _ _ _) (Nat.le_succ _), fun k hk hk' => by simp [Value.ownBlock] at hk hk'; omega⟩, (((Chg.refl _ _).new _).new _).new _⟩, by simp⟩ ?_
 rintro wk ⟨hk0, lk⟩
 have K0 := hid hk0
 generalize hob : w1.heap.size + 2 = ob at *
 have HOB := hid (show w1.heap.size ≤ ob by omega)
 clear hk0 lk hob
 go_wp2_with fail
 go_loopw [12] (fun i wr => ∃ (q : Nat) (s : KS) (gv : Bool) (vk vf : Value), q ≤ nj ∧ i = .int .i64 q ∧ KIn q s ∧ gv = decide (li < s.most) ∧ (gv = false → keepGo (fun j => run p fuel f j) li sp (js.drop q) s = R) ∧ (gv = true → s = R) ∧ Ko w1 w1.heap.size ob s gv vk vf wr) (fun i _ => nj - (intOf i).toNat)
 case atStart => exact ⟨0, k0, false, _, _, Nat.zero_le _, rfl, KIn.zero, by show false = decide (li < 0); rw [decide_eq_false (by omega)], fun _ => HRR.out, fun h => (by cases h), K0.out⟩
 case round =>
  obtain ⟨q, s, gv, vk, vf, hq, rfl, hin, hgv, hgo, hgR, hK⟩ := hrel
  clear K0 HRR
  obtain ⟨Ak, ck, rfl⟩ := own_slice hK.two.kinds
  obtain ⟨Af, cf, rfl⟩ := own_slice hK.two.fails
  have z3 : wr.cell? ⟨ob, 3, none⟩ = some (.bool gv) := hK.blk.cells 3
  have HX := X.out.chg hK.chg (by omega)
  have HY := Y.out.chg hK.chg (by omega)
  have HZ := Z.out.chg hK.chg (by omega)
  have hbw := HB.out.trans (hK.chg.below (B := w.heap.size) HB.out.size (fun x hx e => by omega))
  have fin := hid (fun (hs : s = R) => (show ∀ V, Blk V (w.heap.size + 2) 117 #[.slice Ak s.kinds.length ck, .slice Af s.fails.length cf, .int .i64 s.clock, .bool gv] ∧ OwnI V w.heap.size (.slice Ak s.kinds.length ck) s.kinds ∧ OwnI V w.heap.size (.slice Af s.fails.length cf) s.fails ∧ Below w.heap.size w V → KeptS R li w (.returned (.agg #[.slice Ak s.kinds.length ck, .slice Af s.fails.length cf, .int .i64 s.clock, .bool gv])) V from
   fun V h => by
    subst hs
    exact ⟨Ak, ck, Af, cf, by rw [hgv], h.2.1, h.2.2.1, h.2.2.2⟩))
  have K1 := hid hK
  have zc := hK.blk.cells
  have zzf := HZ.frozen
  have zzc := HZ.cells
  have HZZ := hid HZ
  have HBW := hid hbw
  by_cases hlt : q < nj
  ·cases gv with
   | true =>
    have hsR := hid (hgR rfl)
    clear hgo hgR hgv hin HX HY HZ hbw hK
    go_wp2_with fail
    refine gen_post (X := fun V => Blk V (w.heap.size + 2) 117 #[.slice Ak s.kinds.length ck, .slice Af s.fails.length cf, .int .i64 s.clock, .bool true] ∧ OwnI V w.heap.size (.slice Ak s.kinds.length ck) s.kinds ∧ OwnI V w.heap.size (.slice Af s.fails.length cf) s.fails ∧ Below w.heap.size w V) ?_ ?_
    ·refine ⟨?_, ?_, ?_, ?_⟩
     ·have := (((HZZ.out.put 0 (.slice Ak s.kinds.length ck)).put 1 (.slice Af s.fails.length cf)).put 2 (.int .i64 s.clock)).put 3 (.bool true)
      simpa only [List.setIfInBounds_toArray, List.set_cons_zero, List.set_cons_succ] using this
     ·unfold OwnI
      iterate 4 refine own_far ?_ _ _ (blk_apart K1.out.two.kinds HZZ.out (by decide))
      exact own_mono K1.out.two.kinds (by have := HB.out.size; omega)
     ·unfold OwnI
      iterate 4 refine own_far ?_ _ _ (blk_apart K1.out.two.fails HZZ.out (by decide))
      exact own_mono K1.out.two.fails (by have := HB.out.size; omega)
     ·iterate 4 refine Below.setCell ?_ (by show w.heap.size ≤ w.heap.size + 1 + 1; omega) _
      exact HBW.out
    rintro V hV
    have V1 := hV.1.cells
    have HV := hid hV
    clear hV
    exact bodyPost_ret (v := .agg #[.slice Ak s.kinds.length ck, .slice Af s.fails.length cf, .int .i64 s.clock, .bool true]) (by simp [results, Try.results81, go_sem, V1]) rfl (fin.out hsR.out V HV.out)
   | false =>
    have hms : s.most ≤ li := by
     have : decide (li < s.most) = false := hgv.symm
     rw [decide_eq_false_iff_not] at this
     omega
    obtain ⟨z, hz⟩ : ∃ z, js[q]? = some z := ⟨_, List.getElem?_eq_getElem (by rw [HL.out]; exact hlt)⟩
    have hrz := hid (fun V (b : Below wr.heap.size wr V) => hru.out q z hz V (hbw.trans (b.mono hbw.size)))
    obtain ⟨ad, had, hab, d0⟩ := (HJ.out.below hbw) q z hz
    subst had
    have HTz := HT.out q z hz
    have ho0 := HTz.spent0
    have ho1 := HTz.spent1
    have hg := hgo rfl
    rw [drop_cons hz, keepGo_cons] at hg
    have HIN := hin.step HTz sp
    have i1 : s.kinds.length ≤ 20 := by have := hin.kinds; omega
    have i2 := hin.fails
    have i3 := hin.clock0
    have i4 := hin.clock1
    have i5 := hin.most0
    have i6 := hin.most1
    have HKD := hid HTz.kind
    have hbwS := hid (show w.heap.size < wr.heap.size from HX.lt)
    have zp : wr.cell? ⟨w.heap.size, 0, none⟩ = some (.slice A n c) := HX.cells 0
    have HGO := hid hg
    have HI2 := hid HIN
    clear hz hgo hgR hgv hin HX HY HZ hbw hK hg HIN HTz zc zzf zzc HZZ fin HBW
    try dsimp only at HGO
    try dsimp only at HI2
    generalize run p fuel f z = o at *
    obtain ⟨k1, v1, t1, s1⟩ := o
    dsimp only at ho0 ho1
    have hR := hid (fun (V : World) (b : Below wr.heap.size wr V) => (hrz.out V b).mono (fun e w' (h : RunR ⟨k1, v1, t1, s1⟩ V e w') =>
     show ∃ (A2 : Option Addr) (c2 : Nat), e = .returned (.agg #[.int .i64 k1, .int .i64 v1, .slice A2 t1.length c2, .int .i64 s1]) ∧ Below wr.heap.size wr w' ∧ Below V.heap.size V w' from
      let ⟨A2, c2, h1, h2, h3⟩ := h
      ⟨A2, c2, h1, b.trans (h3.mono b.size), h3⟩))
    clear hrz
    have hsz := hbwS.out
    have dA : ∀ o : Obj, (wr.alloc o).cell? (ad.add q) = some (.int .i64 z) := fun o => ((Below.refl wr.heap.size wr).alloc (Nat.le_refl _) o).cell (by rw [block_of_add]; omega) |>.trans d0
    have pA : ∀ o : Obj, (wr.alloc o).cell? ⟨w.heap.size, 0, none⟩ = some (.slice A n c) := fun o => ((Below.refl wr.heap.size wr).alloc (Nat.le_refl _) o).cell (by show w.heap.size < wr.heap.size; omega) |>.trans zp
    clear hsz
    go_upto_region 5 with fail
    go_cut [13] from 30 to 37 (fun s13 wx => ∃ (gb : Nat) (A2 : Option Addr) (c2 : Nat), s13 = .pointer (some ⟨gb, 0, none⟩) ∧ Blk wx gb 39 #[.int .i64 k1, .int .i64 v1, .slice A2 t1.length c2, .int .i64 s1] ∧ Below wr.heap.size wr wx)
    case first =>
     go_region_with (first | (go_at_call 72; refine (hR.out _ ?_).mono ?_; (first | exact Below.refl _ _ | exact (Below.refl _ _).drew | exact (Below.refl _ _).alloc (Nat.le_refl _) _ | exact ((Below.refl _ _).alloc (Nat.le_refl _) _).drew); rintro e w6 ⟨A2, c2, rfl, bW, cV⟩; (try (have hbx := box4D (W0 := wr) (cs := #[.int .i64 0, .int .i64 0, .slice none 0 0, .int .i64 0]) (t := 39) cV; have zT := hbx.cells; have fT := hbx.frozen))))
     all_goals (go_wp2_with fail; go_meet)
     all_goals (first | exact ⟨wr.heap.size, A2, c2, rfl, Blk.set4 hbx _ _ _ _, (((bW.setCell (p := ⟨wr.heap.size, 0, none⟩) (Nat.le_refl _) _).setCell (p := ⟨wr.heap.size, 1, none⟩) (Nat.le_refl _) _).setCell (p := ⟨wr.heap.size, 2, none⟩) (Nat.le_refl _) _).setCell (p := ⟨wr.heap.size, 3, none⟩) (Nat.le_refl _) _⟩ | exact ⟨w6.heap.size, A2, c2, rfl, heap1_0 w6 _, bW.alloc bW.size _⟩)
    case rest =>
     obtain ⟨gb, A2, c2, rfl, hb2, hbx⟩ := hcut
     have K2 := hid (K1.out.below hbx)
     have OB := hid hb2
     have HNE := hid (Imem.ne_blk hb2 K2.out.blk (by decide) : gb ≠ ob)
     have hlc : w1.heap.size ≤ wc.heap.size := K2.out.chg.size
     have zk : wc.cell? ⟨ob, 0, none⟩ = some (.slice Ak s.kinds.length ck) := K2.out.blk.cells 0
     have y0 : wc.cell? ⟨gb, 0, none⟩ = some (.int .i64 k1) := hb2.cells 0
     clear hb2 hbx zp d0 dA pA z3 hR K1 hab
     go_wp2_with (at_builtin; refine wpList_append_lies _ rfl _ _ 28 rfl w1.heap.size 3 i0 _ 1 8 Try.underlying28 hi hz0 hz1 hz2 rfl (by decide) _ _ _ rfl (World.ownsRow.alloc K2.out.two.kinds _) ⟨wc.heap.size, 0, none⟩ 1 1 [.int .i64 k1] rfl rfl ?cn_1 ?co_1 (by decide) ?c63_1 ?cb_1 ?cl_1 (wc.heap.size + 1) ?cH_1 ?next_1)
     (try (case cn_1 => exact World.news_of_block (cs := #[.int .i64 k1]) (t := 3) (fr := (0, 0)) (heap_alloc_new _ _)))
     case co_1 => first | (intro u hu; simp at hu; rcases hu with rfl; rfl) | simp [Value.oneCell']
     case c63_1 => first | (unfold maxLen; omega) | omega
     case cb_1 => omega
     case cl_1 => first | (simp; omega) | omega
     (try (case cH_1 => simp))
     case next_1 =>
      intro g2 cap2 w2' hown2 hgrow2 hat2 hlt2
      have c2' : Chg (fun y => (Value.slice Ak s.kinds.length ck).ownBlock = some y) wc w2' := (Chg.alloc _ wc _).trans (Chg.of_grown hgrow2) (fun x _ hx => hx.symm)
      have zb := (K2.out.blk.chg c2' (blk_apart K2.out.two.kinds K2.out.blk (by decide))).cells
      have fb := (K2.out.blk.chg c2' (blk_apart K2.out.two.kinds K2.out.blk (by decide))).frozen
      have OB3 := hid (OB.out.chg c2' (blk_apart K2.out.two.kinds OB.out (by decide)))
      have K3 := hid (K2.out.pushK HOB.out c2' hown2 (hat2.imp (fun h => h.symm) (fun h => ⟨g2, rfl, by have h9 := h; omega⟩)))
      clear hown2 hgrow2 hat2 c2' zk y0 OB K2
      go_upto_region 7 with fail
      first | change (fun V => Exit.then _ _ _ _ V) _ | change (fun V => Code.wp _ _ _ _ V) _
      refine gen_world (X := fun V => Ko w1 w1.heap.size ob { s with kinds := s.kinds ++ [k1] } false (.slice (some ⟨g2, 0, none⟩) (s.kinds.length + 1) cap2) (.slice Af s.fails.length cf) V ∧ Blk V gb 39 #[.int .i64 k1, .int .i64 v1, .slice A2 t1.length c2, .int .i64 s1]) ⟨K3.out, OB3.out.far _ _ HNE.out⟩ ?_
      clear zb fb OB3 K3
      rintro W4 ⟨hK4, hO4⟩
      have zc : W4.cell? ⟨ob, 2, none⟩ = some (.int .i64 s.clock) := hK4.blk.cells 2
      have fc := hK4.blk.frozen
      have y3 : W4.cell? ⟨gb, 3, none⟩ = some (.int .i64 s1) := hO4.cells 3
      have K4 := hid hK4
      have O4 := hid hO4
      clear hK4 hO4
      go_upto_region 8 with fail
      first | change (fun V => Exit.then _ _ _ _ V) _ | change (fun V => Code.wp _ _ _ _ V) _
      refine gen_world (X := fun V => Ko w1 w1.heap.size ob (goodK ⟨k1, v1, t1, s1⟩ s) false (.slice (some ⟨g2, 0, none⟩) (s.kinds.length + 1) cap2) (.slice Af s.fails.length cf) V ∧ Blk V gb 39 #[.int .i64 k1, .int .i64 v1, .slice A2 t1.length c2, .int .i64 s1]) ⟨K4.out.clock (s' := goodK ⟨k1, v1, t1, s1⟩ s) HOB.out rfl rfl, O4.out.far _ _ HNE.out⟩ ?_
      clear zc fc y3 O4 K4
      rintro W5 ⟨hK5, hO5⟩
      have zo := hO5.cells
      have K5 := hid hK5
      have hen2 := hid (hen.out k1 v1 s1 A2 t1.length c2 W5)
      clear hK5 hO5
      have hkl : (goodK ⟨k1, v1, t1, s1⟩ s).kinds.length = s.kinds.length + 1 := by show (s.kinds ++ [k1]).length = _; simp
      cases he : ends ⟨k1, v1, t1, s1⟩ with
      | true =>
       have hst : kstep sp ⟨k1, v1, t1, s1⟩ s = goodK ⟨k1, v1, t1, s1⟩ s := by unfold kstep; rw [if_pos he]
       have HG2 := HGO.out
       rw [hst, if_neg (by show ¬ li < s.most; omega)] at HG2
       have HI3 := HI2.out
       rw [hst] at HI3
       have HI4 := hid HI3
       have HG3 := hid HG2
       have hml := hid (show false = decide (li < (goodK ⟨k1, v1, t1, s1⟩ s).most) from (decide_eq_false (by show ¬ li < s.most; omega)).symm)
       unfold ends at he
       rw [he] at hen2
       clear HG2 HI3 hst HGO HI2 he hkl
       generalize goodK ⟨k1, v1, t1, s1⟩ s = sf at *
       go_wp2_with fail
       refine hen2.out.mono ?_
       rintro e W6 ⟨rfl, b6⟩
       have K6 := hid (K5.out.below b6)
       clear b6 K5 zo hen2
       go_wp2_with fail
       go_roundw
       case rel => exact ⟨q + 1, sf, false, _, _, by omega, by go_num, HI4.out, hml.out, fun _ => HG3.out, fun h => (by cases h), K6.out⟩
       case measure => simp [intOf]; omega
      | false =>
       have hst : kstep sp ⟨k1, v1, t1, s1⟩ s = failS sp (goodK ⟨k1, v1, t1, s1⟩ s) := by unfold kstep; rw [if_neg (by rw [he]; decide)]; rfl
       have HG2 := HGO.out
       rw [hst] at HG2
       have HI3 := HI2.out
       rw [hst] at HI3
       have HI4 := hid HI3
       have HG3 := hid HG2
       have hcl0 : 0 ≤ (goodK ⟨k1, v1, t1, s1⟩ s).clock := by show 0 ≤ s.clock + s1; omega
       have hcl1 : (goodK ⟨k1, v1, t1, s1⟩ s).clock ≤ 100000 := by show s.clock + s1 ≤ 100000; omega
       have hfl : (goodK ⟨k1, v1, t1, s1⟩ s).fails.length ≤ 1000 := by show s.fails.length ≤ 1000; omega
       have hmo : (goodK ⟨k1, v1, t1, s1⟩ s).most ≤ li := hms
       have K5' := hid (show Ko w1 w1.heap.size ob (goodK ⟨k1, v1, t1, s1⟩ s) false (.slice (some ⟨g2, 0, none⟩) (s.kinds.length + 1) cap2) (.slice Af (goodK ⟨k1, v1, t1, s1⟩ s).fails.length cf) W5 from K5.out)
       unfold ends at he
       rw [he] at hen2
       clear HG2 HI3 hst HGO HI2 he hkl K5 HKD i1 i2 i3 i4 i5 i6 hms ho0 ho1
       generalize goodK ⟨k1, v1, t1, s1⟩ s = sg at *
       go_wp2_with fail
       refine hen2.out.mono ?_
       rintro e W6 ⟨rfl, b6⟩
       have K6 := hid (K5'.out.below b6)
       have hlc6 : w1.heap.size ≤ W6.heap.size := K6.out.chg.size
       have zf : W6.cell? ⟨ob, 1, none⟩ = some (.slice Af sg.fails.length cf) := K6.out.blk.cells 1
       have zc : W6.cell? ⟨ob, 2, none⟩ = some (.int .i64 sg.clock) := K6.out.blk.cells 2
       clear b6 K5' zo hen2
       go_wp2_with (at_builtin; refine wpList_append_lies _ rfl _ _ 28 rfl w1.heap.size 3 i0 _ 1 8 Try.underlying28 hi hz0 hz1 hz2 rfl (by decide) _ _ _ rfl (World.ownsRow.alloc K6.out.two.fails _) ⟨W6.heap.size, 0, none⟩ 1 1 [.int .i64 sg.clock] rfl rfl ?cn_2 ?co_2 (by decide) ?c63_2 ?cb_2 ?cl_2 (W6.heap.size + 1) ?cH_2 ?next_2)
       (try (case cn_2 => exact World.news_of_block (cs := #[.int .i64 sg.clock]) (t := 3) (fr := (0, 0)) (heap_alloc_new _ _)))
       case co_2 => first | (intro u hu; simp at hu; rcases hu with rfl; rfl) | simp [Value.oneCell']
       case c63_2 => first | (unfold maxLen; omega) | omega
       case cb_2 => omega
       case cl_2 => first | (simp; omega) | omega
       (try (case cH_2 => simp))
       case next_2 =>
        intro g3 cap3 w2' hown2 hgrow2 hat2 hlt2
        have c2' : Chg (fun y => (Value.slice Af sg.fails.length cf).ownBlock = some y) W6 w2' := (Chg.alloc _ W6 _).trans (Chg.of_grown hgrow2) (fun x _ hx => hx.symm)
        have zb := (K6.out.blk.chg c2' (blk_apart K6.out.two.fails K6.out.blk (by decide))).cells
        have fb := (K6.out.blk.chg c2' (blk_apart K6.out.two.fails K6.out.blk (by decide))).frozen
        have K7 := hid (K6.out.pushF HOB.out c2' hown2 (hat2.imp (fun h => h.symm) (fun h => ⟨g3, rfl, by have h9 := h; omega⟩)))
        clear hown2 hgrow2 hat2 c2' zf zc K6
        go_upto_region 10 with fail
        first | change (fun V => Exit.then _ _ _ _ V) _ | change (fun V => Code.wp _ _ _ _ V) _
        refine gen_world (X := fun V => Ko w1 w1.heap.size ob { sg with fails := sg.fails ++ [sg.clock] } false (.slice (some ⟨g2, 0, none⟩) (s.kinds.length + 1) cap2) (.slice (some ⟨g3, 0, none⟩) (sg.fails.length + 1) cap3) V) K7.out ?_
        clear zb fb K7
        intro W8 hK8
        obtain ⟨N, hN⟩ : ∃ N, sg.fails.length + 1 = N := ⟨_, rfl⟩
        obtain ⟨fs, hfs⟩ : ∃ fs : List Int, fs = sg.fails ++ [sg.clock] := ⟨_, rfl⟩
        have HN := hid (show fs.length = N by rw [hfs, List.length_append, List.length_singleton, hN])
        have HFI := hid (show failS sp sg = { sg with fails := fs, most := max sg.most (late fs (sg.clock - sp)) } by rw [hfs]; rfl)
        rw [hN, ← hfs] at hK8
        have hN1 : N ≤ 1001 := by omega
        have K8 := hid hK8
        rw [hN]
        clear hK8 hN hfs hfl
        go_wp2_with fail
        go_loopw [14, 15] (fun s14 s15 wq => ∃ j : Nat, j ≤ N ∧ s15 = .int .i64 j ∧ s14 = .int .i64 (late (fs.take j) (sg.clock - sp)) ∧ Ko w1 w1.heap.size ob { sg with fails := fs } false (.slice (some ⟨g2, 0, none⟩) (s.kinds.length + 1) cap2) (.slice (some ⟨g3, 0, none⟩) N cap3) wq) (fun _ i _ => N - (intOf i).toNat)
        case atStart => exact ⟨0, Nat.zero_le _, rfl, by rw [late_zero]; rfl, K8.out⟩
        case round =>
         obtain ⟨j, hj, rfl, rfl, hKj⟩ := hrel
         have zs := hKj.blk.cells
         have fz := hKj.blk.frozen
         have zw := (Y.out.chg hKj.chg (by omega)).cells
         have hqj := late_take fs (sg.clock - sp) j
         clear K8
         by_cases hlj : j < N
         ·obtain ⟨y, hy⟩ : ∃ y, fs[j]? = some y := ⟨_, List.getElem?_eq_getElem (by rw [HN.out]; exact hlj)⟩
          obtain ⟨ad3, had3, hab3, d3⟩ := (OwnI.rd hKj.two.fails HN.out) j y hy
          obtain rfl : ad3 = ⟨g3, 0, none⟩ := by simpa using had3.symm
          have d1 : wr.cell? ⟨g3, j, none⟩ = some (.int .i64 y) := by simpa [go_sem] using d3
          have KJ := hid hKj.drew
          have HY := hid (fun h => late_yes (b := sg.clock - sp) hy h)
          have HNo := hid (fun h => late_no (b := sg.clock - sp) hy h)
          clear hy had3 hKj
          obtain ⟨qq, hqq⟩ : ∃ qq, late (fs.take j) (sg.clock - sp) = qq := ⟨_, rfl⟩
          rw [hqq] at hqj HY HNo ⊢
          clear hqq
          by_cases hc : sg.clock - sp < y
          ·have hy2 := hid (HY.out hc)
           clear HY HNo
           go_wp2_with fail
           go_region
           go_wp2_with fail
           go_roundw
           case rel => exact ⟨j + 1, by omega, by go_num, by rw [hy2.out]; go_num, KJ.out⟩
           case measure => simp [intOf]; omega
          ·have hy2 := hid (HNo.out hc)
           have hcb : decide (sg.clock - sp < y) = false := by simpa using hc
           clear HY HNo hc
           go_wp2_with fail
           go_region
           go_wp2_with fail
           go_roundw
           case rel => exact ⟨j + 1, by omega, by go_num, by rw [hy2.out], KJ.out⟩
           case measure => simp [intOf]; omega
         ·have hla := hid (late_all fs (sg.clock - sp) (n := j) (by rw [HN.out]; omega))
          have KJ := hid hKj
          clear hKj
          obtain ⟨qq, hqq⟩ : ∃ qq, late (fs.take j) (sg.clock - sp) = qq := ⟨_, rfl⟩
          rw [hqq] at hqj hla ⊢
          clear hqq
          have hcb : decide (j < N) = false := by simpa using hlj
          have HFM := hid (show (failS sp sg).most = max sg.most (qq : Int) by rw [HFI.out, ← hla.out])
          have KN := hid (fun (g' : Bool) => KJ.out.gave (s' := failS sp sg) HOB.out g' (by rw [HFI.out]) (by rw [HFI.out]) (by rw [HFI.out]))
          clear hla KJ
          by_cases hm : li < (qq : Int)
          ·have HF := hid (show failS sp sg = R by rw [← HG3.out, if_pos (by rw [HFM.out]; omega)])
           have hgd := hid (show true = decide (li < (failS sp sg).most) from (decide_eq_true (by rw [HFM.out]; omega)).symm)
           have KT := hid (KN.out true)
           clear KN HFM HFI HG3
           generalize failS sp sg = sf at *
           go_wp2_with fail
           go_roundw
           case rel => exact ⟨q + 1, sf, true, _, _, by omega, by go_num, HI4.out, hgd.out, fun h => (by cases h), fun _ => HF.out, KT.out⟩
           case measure => simp [intOf]; omega
          ·have hmb : decide (li < (qq : Int)) = false := by simpa using hm
           have HF := hid (show keepGo (fun j => run p fuel f j) li sp (js.drop (q + 1)) (failS sp sg) = R by rw [← HG3.out, if_neg (by rw [HFM.out]; omega)])
           have hgd := hid (show false = decide (li < (failS sp sg).most) from (decide_eq_false (by rw [HFM.out]; omega)).symm)
           have KT := hid (KN.out false)
           clear KN HFM HFI HG3 hm
           generalize failS sp sg = sf at *
           go_wp2_with fail
           go_roundw
           case rel => exact ⟨q + 1, sf, false, _, _, by omega, by go_num, HI4.out, hgd.out, fun _ => HF.out, fun h => (by cases h), KT.out⟩
           case measure => simp [intOf]; omega
  ·have hsR := hid (show s = R by
    cases gv with
    | true => exact hgR rfl
    | false => rw [← hgo rfl, List.drop_of_length_le (by rw [HL.out]; omega)]; rfl)
   have hcb : decide (q < nj) = false := by simpa using hlt
   clear hgo hgR hgv hin HX HY HZ hbw hK
   go_wp2_with fail
   refine gen_post (X := fun V => Blk V (w.heap.size + 2) 117 #[.slice Ak s.kinds.length ck, .slice Af s.fails.length cf, .int .i64 s.clock, .bool gv] ∧ OwnI V w.heap.size (.slice Ak s.kinds.length ck) s.kinds ∧ OwnI V w.heap.size (.slice Af s.fails.length cf) s.fails ∧ Below w.heap.size w V) ?_ ?_
   ·refine ⟨?_, ?_, ?_, ?_⟩
    ·have := (((HZZ.out.put 0 (.slice Ak s.kinds.length ck)).put 1 (.slice Af s.fails.length cf)).put 2 (.int .i64 s.clock)).put 3 (.bool gv)
     simpa only [List.setIfInBounds_toArray, List.set_cons_zero, List.set_cons_succ] using this
    ·unfold OwnI
     iterate 4 refine own_far ?_ _ _ (blk_apart K1.out.two.kinds HZZ.out (by decide))
     exact own_mono K1.out.two.kinds (by have := HB.out.size; omega)
    ·unfold OwnI
     iterate 4 refine own_far ?_ _ _ (blk_apart K1.out.two.fails HZZ.out (by decide))
     exact own_mono K1.out.two.fails (by have := HB.out.size; omega)
    ·iterate 4 refine Below.setCell ?_ (by show w.heap.size ≤ w.heap.size + 1 + 1; omega) _
     exact HBW.out
   rintro V hV
   have V1 := hV.1.cells
   have HV := hid hV
   clear hV
   exact bodyPost_ret (v := .agg #[.slice Ak s.kinds.length ck, .slice Af s.fails.length cf, .int .i64 s.clock, .bool gv]) (by simp [results, Try.results81, go_sem, V1]) rfl (fin.out hsR.out V HV.out)
end Go.Proofs.Ytibadkjdchdnjaa.Kks
-- squeezed
