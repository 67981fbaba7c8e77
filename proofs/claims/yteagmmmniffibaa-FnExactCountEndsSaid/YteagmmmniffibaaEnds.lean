/- CountEnds: spec and impl; two counts of the laws compared. (Written by wip/tools/genends.py.) -/
import Derived.Test.YteagmmmniffibaaTree
import Derived.Test.YteagmmmniffibaaM2
namespace Go.Proofs.Yteagmmmniffibaa.EndsP
set_option linter.unusedVariables false
set_option linter.unusedSimpArgs false
open Go.ChangeShapes Go.WideShapes Go.ChangeAt Go.RowKit
open PL Mem Srun Sst To OwnS AskP Res Swhole Sout Irp RunF IntsP RowC AccP AcctP Read3 TreeP LawC

/-- How many calls have an end. -/
def cE (l : List CI) (i : Int) : Int := ((l.filter (fun c => c.fin == i)).length : Nat)
theorem cE_take {l : List CI} {j : Nat} {c : CI} (h : l[j]? = some c) (i : Int) : cE (l.take (j + 1)) i = if c.fin = i then cE (l.take j) i + 1 else cE (l.take j) i := by
  unfold cE
  rw [List.take_add_one, h, Option.toList_some, List.filter_append, List.length_append]
  split
  · rename_i h1
    simp [h1]
  · rename_i h1
    simp [h1]
theorem cE_bound (l : List CI) (j : Nat) (i : Int) : 0 ≤ cE (l.take j) i ∧ cE (l.take j) i ≤ j := by
  unfold cE
  have h1 := List.length_filter_le (fun c : CI => c.fin == i) (l.take j)
  have h2 := List.length_take_le j l
  omega
def e4 (l : List CI) : Array Value := #[.int .i64 (cE l 1), .int .i64 (cE l 2), .int .i64 (cE l 3), .int .i64 (cE l 4)]
def EndsR (r : List CI × Bool) (w : World) (e : Ending) (w' : World) : Prop := e = .returned (.tuple #[.agg (e4 r.1), .bool r.2]) ∧ Below w.heap.size w w'
theorem tree_fins (p : Pg) (f arg fuel : Int) : ∀ (i : Nat) (c : CI), (treeR p f arg fuel).1[i]? = some c → c.fin = 1 ∨ c.fin = 2 ∨ c.fin = 3 ∨ c.fin = 4 := by
  intro i c hc
  cases hb : (runR p f arg fuel).2 with
  | false =>
    unfold treeR at hc
    rw [runR_none hb] at hc
    simp [tds] at hc
  | true =>
    have h := ((runR_whole hb).inv _ (Nat.le_refl _)).fins
    rw [List.take_length] at h
    have := h i c hc
    omega
theorem eqIntA4_same (a b c d : Int) (w : World) :
    Calls Try.prog 48 #[.agg #[.int .i64 a, .int .i64 b, .int .i64 c, .int .i64 d], .agg #[.int .i64 a, .int .i64 b, .int .i64 c, .int .i64 d]] w fun e w' => e = .returned (.bool true) ∧ Below w.heap.size w w' := by
  go_enter Try.func48, Try.ntmps48
  go_upto_region 1 with fail
  change (fun V => Code.wp _ _ _ _ V) _
  refine gen_world (X := fun V => Blk V w.heap.size 60 #[.int .i64 a, .int .i64 b, .int .i64 c, .int .i64 d] ∧ Blk V (w.heap.size + 1) 60 #[.int .i64 a, .int .i64 b, .int .i64 c, .int .i64 d] ∧ Below w.heap.size w V) ⟨heap2_0 w _ _, heap2_1 w _ _, ((Below.refl _ _).alloc (Nat.le_refl _) _).alloc (by simp) _⟩ ?_
  rintro V ⟨x0, x1, b0⟩
  generalize w.heap.size + 1 = g1 at *
  have B := Lib.hid b0
  have X0 := Lib.hid x0
  have X1 := Lib.hid x1
  clear b0 x0 x1
  go_wp2_with fail
  go_loopw [5] (fun i wr => ∃ k : Nat, k ≤ 4 ∧ i = .int .i64 k ∧ Below w.heap.size w wr ∧ Blk wr w.heap.size 60 #[.int .i64 a, .int .i64 b, .int .i64 c, .int .i64 d] ∧ Blk wr g1 60 #[.int .i64 a, .int .i64 b, .int .i64 c, .int .i64 d]) (fun i _ => 4 - (intOf i).toNat)
  case atStart => exact ⟨0, Nat.zero_le _, rfl, B.out, X0.out, X1.out⟩
  case round =>
    obtain ⟨k, hk, rfl, hb, y0, y1⟩ := hrel
    clear B X0 X1
    have HB := Lib.hid (⟨hb.drew, y0, y1⟩ : Below w.heap.size w wr.drew ∧ Blk wr.drew w.heap.size 60 #[.int .i64 a, .int .i64 b, .int .i64 c, .int .i64 d] ∧ Blk wr.drew g1 60 #[.int .i64 a, .int .i64 b, .int .i64 c, .int .i64 d])
    have HB0 := Lib.hid hb
    have h5 : k = 0 ∨ k = 1 ∨ k = 2 ∨ k = 3 ∨ k = 4 := by omega
    rcases h5 with rfl | rfl | rfl | rfl | rfl
    · have p0 : wr.cell? ⟨w.heap.size, 0, none⟩ = some (.int .i64 a) := y0.cells 0
      have p1 : wr.cell? ⟨g1, 0, none⟩ = some (.int .i64 a) := y1.cells 0
      clear y0 y1 hb
      go_wp2_with fail
      go_region
      all_goals
        go_wp2_with fail
        go_roundw
        case rel => exact ⟨1, by omega, rfl, HB.out.1, HB.out.2.1, HB.out.2.2⟩
        case measure => simp [intOf]
    · have p0 : wr.cell? ⟨w.heap.size, 1, none⟩ = some (.int .i64 b) := y0.cells 1
      have p1 : wr.cell? ⟨g1, 1, none⟩ = some (.int .i64 b) := y1.cells 1
      clear y0 y1 hb
      go_wp2_with fail
      go_region
      all_goals
        go_wp2_with fail
        go_roundw
        case rel => exact ⟨2, by omega, rfl, HB.out.1, HB.out.2.1, HB.out.2.2⟩
        case measure => simp [intOf]
    · have p0 : wr.cell? ⟨w.heap.size, 2, none⟩ = some (.int .i64 c) := y0.cells 2
      have p1 : wr.cell? ⟨g1, 2, none⟩ = some (.int .i64 c) := y1.cells 2
      clear y0 y1 hb
      go_wp2_with fail
      go_region
      all_goals
        go_wp2_with fail
        go_roundw
        case rel => exact ⟨3, by omega, rfl, HB.out.1, HB.out.2.1, HB.out.2.2⟩
        case measure => simp [intOf]
    · have p0 : wr.cell? ⟨w.heap.size, 3, none⟩ = some (.int .i64 d) := y0.cells 3
      have p1 : wr.cell? ⟨g1, 3, none⟩ = some (.int .i64 d) := y1.cells 3
      clear y0 y1 hb
      go_wp2_with fail
      go_region
      all_goals
        go_wp2_with fail
        go_roundw
        case rel => exact ⟨4, by omega, rfl, HB.out.1, HB.out.2.1, HB.out.2.2⟩
        case measure => simp [intOf]
    · clear y0 y1 hb
      go_wp2_with fail
      go_ret
      exact ⟨rfl, HB0.out⟩

set_option maxRecDepth 100000 in
set_option maxHeartbeats 8000000 in
theorem endsS_any (lo n c : Nat) (A : Option Addr) (p : Pg) (f arg fuel : Int) (hn : n ≤ 9223372036854775807) (hl : p.length = n) (hsm : Small p 9223372036854775807) (w : World) (ho : OwnP w lo (.slice A n c) p) :
    Calls Try.prog 46 #[.agg #[.slice A n c], .int .i64 f, .int .i64 arg, .int .i64 fuel] w (EndsR (treeR p f arg fuel) w) := by
  have hq := Lib.hid (fun W (h : Below w.heap.size w W) => treeS_any lo n c A p f arg fuel hn hl hsm W (ho.below h))
  have hal : ∀ o1 o2 o3 : Obj, Below w.heap.size w (((w.alloc o1).alloc o2).alloc o3) := fun o1 o2 o3 => (((Below.refl _ _).alloc (Nat.le_refl _) _).alloc (by simp) _).alloc (by simp <;> omega) _
  have HAL := Lib.hid hal
  have hlen := treeR_len p f arg fuel
  have hfin := Lib.hid (tree_fins p f arg fuel)
  unfold EndsR
  generalize treeR p f arg fuel = r at *
  obtain ⟨cs, b⟩ := r
  unfold CallsR at hq
  dsimp only at hq hlen hfin ⊢
  have HFULL := Lib.hid (show e4 (cs.take cs.length) = e4 cs by rw [List.take_length])
  clear ho hsm hal
  go_enter Try.func46, Try.ntmps46
  go_wp2_with fail
  refine (hq.out _ (HAL.out _ _ _)).mono ?_
  rintro e w2 ⟨Ac, cc, rfl, oc, b2⟩
  have hz := (HAL.out (.cells #[.slice A n c] 33) (.cells #[.int .i64 0, .int .i64 0, .int .i64 0, .int .i64 0] 60) (.cells #[.int .i64 0, .int .i64 0, .int .i64 0, .int .i64 0] 60))
  have R1 := Lib.hid (show Blk w2 (w.heap.size + 1) 60 #[.int .i64 0, .int .i64 0, .int .i64 0, .int .i64 0] from Blk.below (heap3_1 w (.cells #[.slice A n c] 33) (.cells #[.int .i64 0, .int .i64 0, .int .i64 0, .int .i64 0] 60) (.cells #[.int .i64 0, .int .i64 0, .int .i64 0, .int .i64 0] 60)) b2 (by simp <;> omega))
  have R2 := Lib.hid (show Blk w2 (w.heap.size + 1 + 1) 60 #[.int .i64 0, .int .i64 0, .int .i64 0, .int .i64 0] from Blk.below (heap3_2 w (.cells #[.slice A n c] 33) (.cells #[.int .i64 0, .int .i64 0, .int .i64 0, .int .i64 0] 60) (.cells #[.int .i64 0, .int .i64 0, .int .i64 0, .int .i64 0] 60)) b2 (by simp <;> omega))
  have B2 := Lib.hid (hz.trans (b2.mono hz.size))
  have OC := Lib.hid (own_mono (B' := w.heap.size) oc hz.size)
  clear oc b2 hq hz
  have hg1 : w.heap.size < w.heap.size + 1 := by omega
  have hg2 : w.heap.size + 1 < w.heap.size + 1 + 1 := by omega
  generalize w.heap.size + 1 + 1 = g2 at *
  generalize w.heap.size + 1 = g1 at *
  go_wp2_with fail
  go_loopw [13] (fun i wr => ∃ j : Nat, j ≤ cs.length ∧ i = .int .i64 j ∧ Blk wr g2 60 (e4 (cs.take j)) ∧ Blk wr g1 60 #[.int .i64 0, .int .i64 0, .int .i64 0, .int .i64 0] ∧ OwnC wr w.heap.size (.slice Ac cs.length cc) cs ∧ Below w.heap.size w wr) (fun i _ => cs.length - (intOf i).toNat)
  case atStart => exact ⟨0, Nat.zero_le _, rfl, R2.out, R1.out, OC.out, B2.out⟩
  case round =>
    obtain ⟨j, hj, rfl, hcnt, hres, hown, hb⟩ := hrel
    clear R1 R2 OC B2
    by_cases hlt : j < cs.length
    · obtain ⟨⟨c0, c1, c2, c3, c4⟩, hs⟩ : ∃ s, cs[j]? = some s := ⟨_, List.getElem?_eq_getElem hlt⟩
      have hf := hfin.out j _ hs
      obtain ⟨ad, rfl, hab, q0, q1, q2, q3, q4⟩ := (hown.rd rfl) j _ hs
      have n1 := cE_take hs 1
      have n2 := cE_take hs 2
      have n3 := cE_take hs 3
      have n4 := cE_take hs 4
      have x1b := cE_bound cs j 1
      have x2b := cE_bound cs j 2
      have x3b := cE_bound cs j 3
      have x4b := cE_bound cs j 4
      unfold e4 at hcnt
      dsimp only at q3 n1 n2 n3 n4 hf
      have HRES := Lib.hid hres
      have HO := Lib.hid hown
      have HB := Lib.hid hb
      clear hs hres hown hb q0 q1 q2 q4
      generalize cE (cs.take j) 1 = x1 at *
      generalize cE (cs.take j) 2 = x2 at *
      generalize cE (cs.take j) 3 = x3 at *
      generalize cE (cs.take j) 4 = x4 at *
      rcases hf with rfl | rfl | rfl | rfl
      · have y : wr.cell? ⟨g2, 0, none⟩ = some (.int .i64 x1) := hcnt.cells 0
        have fz := hcnt.frozen
        have HC := Lib.hid hcnt
        have HX := Lib.hid (show e4 (cs.take (j + 1)) = #[.int .i64 (x1 + 1), .int .i64 x2, .int .i64 x3, .int .i64 x4] by unfold e4; simp only [n1, n2, n3, n4]; simp)
        clear hcnt n1 n2 n3 n4
        go_wp2_with fail
        go_roundw
        case rel =>
          refine ⟨j + 1, by omega, by go_num, by rw [HX.out]; have := HC.out.put 0 (.int .i64 (x1 + 1)); simpa using this, HRES.out.far _ _ (by show g1 ≠ g2; omega), own_far HO.out _ _ (blk_apart HO.out HC.out (by decide)), HB.out.trans (((Chg.refl (fun x => x = g2) wr).put _ _ (.inr rfl)).below HB.out.size (fun x hx hc => by omega))⟩
        case measure => simp [intOf]; omega
      · have y : wr.cell? ⟨g2, 1, none⟩ = some (.int .i64 x2) := hcnt.cells 1
        have fz := hcnt.frozen
        have HC := Lib.hid hcnt
        have HX := Lib.hid (show e4 (cs.take (j + 1)) = #[.int .i64 x1, .int .i64 (x2 + 1), .int .i64 x3, .int .i64 x4] by unfold e4; simp only [n1, n2, n3, n4]; simp)
        clear hcnt n1 n2 n3 n4
        go_wp2_with fail
        go_roundw
        case rel =>
          refine ⟨j + 1, by omega, by go_num, by rw [HX.out]; have := HC.out.put 1 (.int .i64 (x2 + 1)); simpa using this, HRES.out.far _ _ (by show g1 ≠ g2; omega), own_far HO.out _ _ (blk_apart HO.out HC.out (by decide)), HB.out.trans (((Chg.refl (fun x => x = g2) wr).put _ _ (.inr rfl)).below HB.out.size (fun x hx hc => by omega))⟩
        case measure => simp [intOf]; omega
      · have y : wr.cell? ⟨g2, 2, none⟩ = some (.int .i64 x3) := hcnt.cells 2
        have fz := hcnt.frozen
        have HC := Lib.hid hcnt
        have HX := Lib.hid (show e4 (cs.take (j + 1)) = #[.int .i64 x1, .int .i64 x2, .int .i64 (x3 + 1), .int .i64 x4] by unfold e4; simp only [n1, n2, n3, n4]; simp)
        clear hcnt n1 n2 n3 n4
        go_wp2_with fail
        go_roundw
        case rel =>
          refine ⟨j + 1, by omega, by go_num, by rw [HX.out]; have := HC.out.put 2 (.int .i64 (x3 + 1)); simpa using this, HRES.out.far _ _ (by show g1 ≠ g2; omega), own_far HO.out _ _ (blk_apart HO.out HC.out (by decide)), HB.out.trans (((Chg.refl (fun x => x = g2) wr).put _ _ (.inr rfl)).below HB.out.size (fun x hx hc => by omega))⟩
        case measure => simp [intOf]; omega
      · have y : wr.cell? ⟨g2, 3, none⟩ = some (.int .i64 x4) := hcnt.cells 3
        have fz := hcnt.frozen
        have HC := Lib.hid hcnt
        have HX := Lib.hid (show e4 (cs.take (j + 1)) = #[.int .i64 x1, .int .i64 x2, .int .i64 x3, .int .i64 (x4 + 1)] by unfold e4; simp only [n1, n2, n3, n4]; simp)
        clear hcnt n1 n2 n3 n4
        go_wp2_with fail
        go_roundw
        case rel =>
          refine ⟨j + 1, by omega, by go_num, by rw [HX.out]; have := HC.out.put 3 (.int .i64 (x4 + 1)); simpa using this, HRES.out.far _ _ (by show g1 ≠ g2; omega), own_far HO.out _ _ (blk_apart HO.out HC.out (by decide)), HB.out.trans (((Chg.refl (fun x => x = g2) wr).put _ _ (.inr rfl)).below HB.out.size (fun x hx hc => by omega))⟩
        case measure => simp [intOf]; omega

    · obtain rfl : j = cs.length := by omega
      rw [HFULL.out] at hcnt
      have zc := hcnt.cells
      have zr := hres.cells
      have fr := hres.frozen
      have HRES := Lib.hid hres
      have HB := Lib.hid hb
      unfold e4 at zc
      clear hcnt hown hb
      have HE4 : Hid (e4 cs = #[.int .i64 (cE cs 1), .int .i64 (cE cs 2), .int .i64 (cE cs 3), .int .i64 (cE cs 4)]) := Lib.hid rfl
      generalize cE cs 1 = x1 at *
      generalize cE cs 2 = x2 at *
      generalize cE cs 3 = x3 at *
      generalize cE cs 4 = x4 at *
      clear hres
      go_wp2_with fail
      have hf := (((HRES.out.put 0 (.int .i64 x1)).put 1 (.int .i64 x2)).put 2 (.int .i64 x3)).put 3 (.int .i64 x4)
      simp only [List.setIfInBounds_toArray, List.set_cons_zero, List.set_cons_succ] at hf
      have hc := hf.cells
      have hch : Chg (fun x => x = g1) wr ((((wr.setCell ⟨g1, 0, none⟩ (.int .i64 x1)).setCell ⟨g1, 1, none⟩ (.int .i64 x2)).setCell ⟨g1, 2, none⟩ (.int .i64 x3)).setCell ⟨g1, 3, none⟩ (.int .i64 x4)) := ((((Chg.refl (fun x => x = g1) wr).put _ _ (.inr rfl)).put _ _ (.inr rfl)).put _ _ (.inr rfl)).put _ _ (.inr rfl)
      refine bodyPost_ret (v := .tuple #[.agg #[.int .i64 x1, .int .i64 x2, .int .i64 x3, .int .i64 x4], .bool b]) (by simp [results, Try.results46, go_sem, hc]) rfl ⟨by rw [HE4.out], HB.out.trans (hch.below HB.out.size (fun x hx hc => by omega))⟩

set_option maxRecDepth 100000 in
set_option maxHeartbeats 8000000 in
theorem endsI_any (lo n c : Nat) (A : Option Addr) (p : Pg) (f arg fuel : Int) (hn : n ≤ 9223372036854775807) (hl : p.length = n) (hsm : Small p 9223372036854775807) (w : World) (ho : OwnP w lo (.slice A n c) p) :
    Calls Try.prog 47 #[.agg #[.slice A n c], .int .i64 f, .int .i64 arg, .int .i64 fuel] w (EndsR (treeR p f arg fuel) w) := by
  have hq := Lib.hid (fun W (h : Below w.heap.size w W) => accountOf_any lo n c A p f arg fuel hn hl hsm W (ho.below h))
  have hal : ∀ o1 o2 : Obj, Below w.heap.size w ((w.alloc o1).alloc o2) := fun o1 o2 => ((Below.refl _ _).alloc (Nat.le_refl _) _).alloc (by simp) _
  have HAL := Lib.hid hal
  have hlen := treeR_len p f arg fuel
  have hfin := Lib.hid (tree_fins p f arg fuel)
  have hr : treeR p f arg fuel = ((tds (runR p f arg fuel).1.trace).calls, (runR p f arg fuel).2) := rfl
  unfold EndsR
  generalize treeR p f arg fuel = r at *
  obtain ⟨cs, b⟩ := r
  unfold AcctR at hq
  simp only [Prod.mk.injEq] at hr
  obtain ⟨hr1, hr2⟩ := hr
  rw [← hr2] at hq
  generalize (runR p f arg fuel).1.trace = t at *
  have hq' := Lib.hid (fun W h => (hq.out W h).mono (fun e w' (h : ∃ (g : Nat) (k v s : Int) (At : Option Addr) (ct : Nat) (cv ov : Value) (cur : Int), _) => show ∃ (g : Nat) (k v s : Int) (At : Option Addr) (ct : Nat) (cv ov : Value) (cur : Int), e = .returned (.tuple #[.pointer (some ⟨g, 0, none⟩), .bool b]) ∧ Acc g k v s (.slice At t.length ct) cv ov cs (tds t).owners cur w' ∧ Rd3 w' g At t ∧ W.heap.size ≤ g ∧ Below W.heap.size W w' from hr1 ▸ h))
  dsimp only at hlen hfin ⊢
  have HFULL := Lib.hid (show e4 (cs.take cs.length) = e4 cs by rw [List.take_length])
  clear ho hsm hal hq hr1 hr2
  go_enter Try.func47, Try.ntmps47
  go_wp2_with fail
  refine (hq'.out _ (HAL.out _ _)).mono ?_
  rintro e w2 ⟨g, k, v, s, At, ct, cv, ov, cur, rfl, hacc, hrd, hg, b2⟩
  obtain ⟨Ac, cc, rfl⟩ := own_slice hacc.calls
  have hz := (HAL.out (.cells #[.slice A n c] 33) (.cells #[.int .i64 0, .int .i64 0, .int .i64 0, .int .i64 0] 60))
  have R1 := Lib.hid (show Blk w2 (w.heap.size + 1) 60 #[.int .i64 0, .int .i64 0, .int .i64 0, .int .i64 0] from Blk.below (heap2_1 w (.cells #[.slice A n c] 33) (.cells #[.int .i64 0, .int .i64 0, .int .i64 0, .int .i64 0] 60)) b2 (by simp))
  have B2 := Lib.hid (hz.trans (b2.mono hz.size))
  have OC := Lib.hid (own_mono (B' := w.heap.size) hacc.calls (Nat.le_trans hz.size hg))
  have HA := Lib.hid hacc
  clear hacc hrd hg b2 hq' hz
  have hg1 : w.heap.size < w.heap.size + 1 := by omega
  generalize w.heap.size + 1 = g1 at *
  go_upto_region 3 with fail
  change (fun V => Code.wp _ _ _ _ V) _
  refine gen_world (X := fun V => Blk V w2.heap.size 60 #[.int .i64 0, .int .i64 0, .int .i64 0, .int .i64 0] ∧ Below w2.heap.size w2 V) ⟨heap1_0 w2 _, (Below.refl _ _).alloc (Nat.le_refl _) _⟩ ?_
  rintro w3 ⟨x3, b3⟩
  have R2 := Lib.hid x3
  have R13 := Lib.hid (R1.out.below b3 R1.out.lt)
  have B3 := Lib.hid (B2.out.trans (b3.mono B2.out.size))
  have OC3 := Lib.hid (show OwnC w3 w.heap.size (.slice Ac cs.length cc) cs from own_below OC.out b3 (Nat.le_refl _))
  have z4 : w3.cell? ⟨g, 4, none⟩ = some (.slice Ac cs.length cc) := (HA.out.below b3).blk.cells 4
  have hg12 : g1 < w2.heap.size := R1.out.lt
  clear x3 b3 B2 R1 OC HA
  generalize w2.heap.size = g2 at *
  go_wp2_with fail
  go_loopw [29] (fun i wr => ∃ j : Nat, j ≤ cs.length ∧ i = .int .i64 j ∧ Blk wr g2 60 (e4 (cs.take j)) ∧ Blk wr g1 60 #[.int .i64 0, .int .i64 0, .int .i64 0, .int .i64 0] ∧ OwnC wr w.heap.size (.slice Ac cs.length cc) cs ∧ Below w.heap.size w wr) (fun i _ => cs.length - (intOf i).toNat)
  case atStart => exact ⟨0, Nat.zero_le _, rfl, R2.out, R13.out, OC3.out, B3.out⟩
  case round =>
    obtain ⟨j, hj, rfl, hcnt0, hres0, hown0, hb0⟩ := hrel
    clear R13 R2 OC3 B3 z4
    by_cases hlt : j < cs.length
    · obtain ⟨⟨c0, c1, c2, c3, c4⟩, hs⟩ : ∃ s, cs[j]? = some s := ⟨_, List.getElem?_eq_getElem hlt⟩
      have hf := hfin.out j _ hs
      obtain ⟨ad, rfl, hab, q0, q1, q2, q3, q4⟩ := (hown0.rd rfl) j _ hs
      have H0 := Lib.hid (⟨hcnt0, hres0, hown0, hb0⟩ : Blk wr g2 60 (e4 (cs.take j)) ∧ Blk wr g1 60 #[.int .i64 0, .int .i64 0, .int .i64 0, .int .i64 0] ∧ OwnC wr w.heap.size (.slice (some ad) cs.length cc) cs ∧ Below w.heap.size w wr)
      dsimp only at q0 q1 q2 q3 q4
      clear hcnt0 hres0 hown0 hb0
      go_upto_region 6 with fail
      change (fun V => Code.wp _ _ _ _ V) _
      refine gen_world (X := fun V => Blk V wr.heap.size 99 #[.int .i64 c0, .int .i64 c1, .bool c2, .int .i64 c3, .int .i64 c4] ∧ Blk V g2 60 (e4 (cs.take j)) ∧ Blk V g1 60 #[.int .i64 0, .int .i64 0, .int .i64 0, .int .i64 0] ∧ OwnC V w.heap.size (.slice (some ad) cs.length cc) cs ∧ Below w.heap.size w V)
        ⟨heap1_0 wr _, H0.out.1.alloc _, H0.out.2.1.alloc _, World.ownsRow.alloc H0.out.2.2.1 _, H0.out.2.2.2.alloc H0.out.2.2.2.size _⟩ ?_
      clear H0 q0 q1 q2 q3 q4
      generalize wr.heap.size = bx
      rintro X ⟨hbx, hcnt, hres, hown, hb⟩
      have q3 : X.cell? ⟨bx, 3, none⟩ = some (.int .i64 c3) := hbx.cells 3
      have n1 := cE_take hs 1
      have n2 := cE_take hs 2
      have n3 := cE_take hs 3
      have n4 := cE_take hs 4
      have x1b := cE_bound cs j 1
      have x2b := cE_bound cs j 2
      have x3b := cE_bound cs j 3
      have x4b := cE_bound cs j 4
      unfold e4 at hcnt
      dsimp only at n1 n2 n3 n4 hf
      have HRES := Lib.hid hres
      have HO := Lib.hid hown
      have HB := Lib.hid hb
      clear hs hres hown hb hbx
      generalize cE (cs.take j) 1 = x1 at *
      generalize cE (cs.take j) 2 = x2 at *
      generalize cE (cs.take j) 3 = x3 at *
      generalize cE (cs.take j) 4 = x4 at *
      rcases hf with rfl | rfl | rfl | rfl
      · have y : X.cell? ⟨g2, 0, none⟩ = some (.int .i64 x1) := hcnt.cells 0
        have fz := hcnt.frozen
        have HC := Lib.hid hcnt
        have HX := Lib.hid (show e4 (cs.take (j + 1)) = #[.int .i64 (x1 + 1), .int .i64 x2, .int .i64 x3, .int .i64 x4] by unfold e4; simp only [n1, n2, n3, n4]; simp)
        clear hcnt n1 n2 n3 n4
        go_wp2_with fail
        go_roundw
        case rel =>
          refine ⟨j + 1, by omega, by go_num, by rw [HX.out]; have := HC.out.put 0 (.int .i64 (x1 + 1)); simpa using this, HRES.out.far _ _ (by show g1 ≠ g2; omega), own_far HO.out _ _ (blk_apart HO.out HC.out (by decide)), HB.out.trans (((Chg.refl (fun x => x = g2) X).put _ _ (.inr rfl)).below HB.out.size (fun x hx hc => by omega))⟩
        case measure => simp [intOf]; omega
      · have y : X.cell? ⟨g2, 1, none⟩ = some (.int .i64 x2) := hcnt.cells 1
        have fz := hcnt.frozen
        have HC := Lib.hid hcnt
        have HX := Lib.hid (show e4 (cs.take (j + 1)) = #[.int .i64 x1, .int .i64 (x2 + 1), .int .i64 x3, .int .i64 x4] by unfold e4; simp only [n1, n2, n3, n4]; simp)
        clear hcnt n1 n2 n3 n4
        go_wp2_with fail
        go_roundw
        case rel =>
          refine ⟨j + 1, by omega, by go_num, by rw [HX.out]; have := HC.out.put 1 (.int .i64 (x2 + 1)); simpa using this, HRES.out.far _ _ (by show g1 ≠ g2; omega), own_far HO.out _ _ (blk_apart HO.out HC.out (by decide)), HB.out.trans (((Chg.refl (fun x => x = g2) X).put _ _ (.inr rfl)).below HB.out.size (fun x hx hc => by omega))⟩
        case measure => simp [intOf]; omega
      · have y : X.cell? ⟨g2, 2, none⟩ = some (.int .i64 x3) := hcnt.cells 2
        have fz := hcnt.frozen
        have HC := Lib.hid hcnt
        have HX := Lib.hid (show e4 (cs.take (j + 1)) = #[.int .i64 x1, .int .i64 x2, .int .i64 (x3 + 1), .int .i64 x4] by unfold e4; simp only [n1, n2, n3, n4]; simp)
        clear hcnt n1 n2 n3 n4
        go_wp2_with fail
        go_roundw
        case rel =>
          refine ⟨j + 1, by omega, by go_num, by rw [HX.out]; have := HC.out.put 2 (.int .i64 (x3 + 1)); simpa using this, HRES.out.far _ _ (by show g1 ≠ g2; omega), own_far HO.out _ _ (blk_apart HO.out HC.out (by decide)), HB.out.trans (((Chg.refl (fun x => x = g2) X).put _ _ (.inr rfl)).below HB.out.size (fun x hx hc => by omega))⟩
        case measure => simp [intOf]; omega
      · have y : X.cell? ⟨g2, 3, none⟩ = some (.int .i64 x4) := hcnt.cells 3
        have fz := hcnt.frozen
        have HC := Lib.hid hcnt
        have HX := Lib.hid (show e4 (cs.take (j + 1)) = #[.int .i64 x1, .int .i64 x2, .int .i64 x3, .int .i64 (x4 + 1)] by unfold e4; simp only [n1, n2, n3, n4]; simp)
        clear hcnt n1 n2 n3 n4
        go_wp2_with fail
        go_roundw
        case rel =>
          refine ⟨j + 1, by omega, by go_num, by rw [HX.out]; have := HC.out.put 3 (.int .i64 (x4 + 1)); simpa using this, HRES.out.far _ _ (by show g1 ≠ g2; omega), own_far HO.out _ _ (blk_apart HO.out HC.out (by decide)), HB.out.trans (((Chg.refl (fun x => x = g2) X).put _ _ (.inr rfl)).below HB.out.size (fun x hx hc => by omega))⟩
        case measure => simp [intOf]; omega

    · obtain rfl : j = cs.length := by omega
      rw [HFULL.out] at hcnt0
      have zc := hcnt0.cells
      have zr := hres0.cells
      have fr := hres0.frozen
      have HRES := Lib.hid hres0
      have HB := Lib.hid hb0
      unfold e4 at zc
      clear hcnt0 hown0 hb0 hres0
      have HE4 : Hid (e4 cs = #[.int .i64 (cE cs 1), .int .i64 (cE cs 2), .int .i64 (cE cs 3), .int .i64 (cE cs 4)]) := Lib.hid rfl
      generalize cE cs 1 = x1 at *
      generalize cE cs 2 = x2 at *
      generalize cE cs 3 = x3 at *
      generalize cE cs 4 = x4 at *
      go_wp2_with fail
      have hf := (((HRES.out.put 0 (.int .i64 x1)).put 1 (.int .i64 x2)).put 2 (.int .i64 x3)).put 3 (.int .i64 x4)
      simp only [List.setIfInBounds_toArray, List.set_cons_zero, List.set_cons_succ] at hf
      have hc := hf.cells
      have hch : Chg (fun x => x = g1) wr ((((wr.setCell ⟨g1, 0, none⟩ (.int .i64 x1)).setCell ⟨g1, 1, none⟩ (.int .i64 x2)).setCell ⟨g1, 2, none⟩ (.int .i64 x3)).setCell ⟨g1, 3, none⟩ (.int .i64 x4)) := ((((Chg.refl (fun x => x = g1) wr).put _ _ (.inr rfl)).put _ _ (.inr rfl)).put _ _ (.inr rfl)).put _ _ (.inr rfl)
      refine bodyPost_ret (v := .tuple #[.agg #[.int .i64 x1, .int .i64 x2, .int .i64 x3, .int .i64 x4], .bool b]) (by simp [results, Try.results47, go_sem, hc]) rfl ⟨by rw [HE4.out], HB.out.trans (hch.below HB.out.size (fun x hx hc => by omega))⟩

end Go.Proofs.Yteagmmmniffibaa.EndsP
