import Derived.Test.YthejnpignlhgiaaFrs
import Derived.Test.YthejnpignlhgiaaIrp
set_option linter.all false
namespace Go.Proofs.Ythejnpignlhgiaa.Fri
open Lib (hid)
open Go.ChangeShapes Go.WideShapes Go.ChangeAt Go.RowKit
open PL Mem Srun Sst Imem Icall Irun To OwnS AskP Res Swhole Sout StS Irp Frp
def OutF (r : Out × Int × Bool) (w : World) (e : Ending) (w' : World) : Prop :=
 ∃ A c, e = .returned (.tuple #[outval r.1 (.slice A r.1.trace.length c), .int .i64 r.2.1, .bool r.2.2]) ∧ Tre w' w.heap.size (.slice A r.1.trace.length c) r.1.trace ∧ Below w.heap.size w w'
theorem blk_ne {W : World} {g g' t t' : Nat} {cs cs' : Array Value} (h : Blk W g t cs) (h' : Blk W g' t' cs') (hne : t ≠ t') : g ≠ g' := Frs.ne_blkF h h' hne
set_option maxRecDepth 100000 in
set_option maxHeartbeats 4000000 in
theorem fromS_any (lo n c : Nat) (A : Option Addr) (p : Pg) (f arg fuel s : Int) (hn : n ≤ 9223372036854775807) (hl : p.length = n) (hsm : Small p 9223372036854775807) (w : World) (ho : OwnP w lo (.slice A n c) p) :
  Calls Try.prog 33 #[.agg #[.slice A n c], .int .i64 f, .int .i64 arg, .int .i64 fuel, .int .i64 s] w (OutF (fromR p f arg fuel s) w) := by
 have hq := hid (fun W (h : Below w.heap.size w W) => l2Ask_any w.heap.size A n c p f arg fuel hn hl hsm W (ho.rd.below h) h.size)
 have hN := hid (fun W => StpS.l2Number_any s W)
 have hal : ∀ o1 o2 : Obj, Below w.heap.size w ((w.alloc o1).alloc o2) := fun o1 o2 => ((Below.refl _ _).alloc (Nat.le_refl _) _).alloc (by simp) _
 have HAL := hid hal
 clear hal
 cases ha : asks p f arg fuel with
 | false =>
  have hr := hid (fromR_no (s := s) (show ¬ (asks p f arg fuel = true ∧ isNum s = true) by rw [ha]; simp))
  rw [ha] at hq
  clear ha ho hsm
  go_enter Try.func33, Try.ntmps33
  go_wp2_with fail
  refine (hq.out _ (HAL.out _ _)).mono ?_
  rintro e w1 ⟨rfl, b1⟩
  have hb := hid (Blk.below (heap2_1 w (.cells #[.slice A n c] 35) (.cells #[.int .i64 0, .int .i64 0, .slice none 0 0, .int .i64 0] 56)) b1 (by simp))
  have ha0 := (Blk.below (heap2_0 w (.cells #[.slice A n c] 35) (.cells #[.int .i64 0, .int .i64 0, .slice none 0 0, .int .i64 0] 56)) b1 (by simp <;> omega)).cells
  have hbw := hid ((HAL.out _ _).trans (b1.mono (by simp <;> omega)))
  clear b1 hq
  clear ha0
  have c1 := hb.out.cells
  have f1 := hb.out.frozen
  go_wp2_with fail
  refine gen_post (X := fun V => Blk V (w.heap.size + 1) 56 #[.int .i64 0, .int .i64 0, .slice none 0 0, .int .i64 0] ∧ Below w.heap.size w V) ⟨Blk.set4 hb.out _ _ _ _, ?_⟩ ?_
  ·iterate 4 refine Below.setCell ?_ (Nat.le_succ _) _
   exact hbw.out
  intro V hV
  have V1 := hV.1.cells
  have HV := hid hV.2
  clear hV c1 f1
  exact bodyPost_ret (v := .tuple #[.agg #[.int .i64 0, .int .i64 0, .slice none 0 0, .int .i64 0], .int .i64 0, .bool false]) (by simp [results, Try.results33, go_sem, V1]) rfl ⟨none, 0, by rw [hr.out]; rfl, by rw [hr.out]; exact World.ownsRow_nil _ _ _ _, HV.out⟩
 | true =>
  rw [ha] at hq
  cases hs : isNum s with
  | false =>
   have hr := hid (fromR_no (show ¬ (asks p f arg fuel = true ∧ isNum s = true) by rw [hs]; simp))
   rw [hs] at hN
   clear ha ho hsm hs
   go_enter Try.func33, Try.ntmps33
   go_wp2_with fail
   refine (hq.out _ (HAL.out _ _)).mono ?_
   rintro e w1 ⟨rfl, b1⟩
   have hb := hid (Blk.below (heap2_1 w (.cells #[.slice A n c] 35) (.cells #[.int .i64 0, .int .i64 0, .slice none 0 0, .int .i64 0] 56)) b1 (by simp))
   have ha0 := (Blk.below (heap2_0 w (.cells #[.slice A n c] 35) (.cells #[.int .i64 0, .int .i64 0, .slice none 0 0, .int .i64 0] 56)) b1 (by simp <;> omega)).cells
   have hbw := hid ((HAL.out _ _).trans (b1.mono (by simp <;> omega)))
   clear b1 hq
   clear ha0
   go_wp2_with fail
   refine (hN.out _).mono ?_
   rintro e w9 ⟨rfl, rfl⟩
   have c1 := hb.out.cells
   have f1 := hb.out.frozen
   go_wp2_with fail
   refine gen_post (X := fun V => Blk V (w.heap.size + 1) 56 #[.int .i64 0, .int .i64 0, .slice none 0 0, .int .i64 0] ∧ Below w.heap.size w V) ⟨Blk.set4 hb.out _ _ _ _, ?_⟩ ?_
   ·iterate 4 refine Below.setCell ?_ (Nat.le_succ _) _
    exact hbw.out
   intro V hV
   have V1 := hV.1.cells
   have HV := hid hV.2
   clear hV c1 f1
   exact bodyPost_ret (v := .tuple #[.agg #[.int .i64 0, .int .i64 0, .slice none 0 0, .int .i64 0], .int .i64 0, .bool false]) (by simp [results, Try.results33, go_sem, V1]) rfl ⟨none, 0, by rw [hr.out]; rfl, by rw [hr.out]; exact World.ownsRow_nil _ _ _ _, HV.out⟩
  | true =>
   rw [hs] at hN
   obtain ⟨h1, h2, h3, h4, h5, h6⟩ := start_wf (n := n) ha
   have hn6 : p.length ≤ 6 ∧ Small p 8 := okProg_small h1
   have hr := hid (fromR_yes ha hs)
   have hru := hid (fun W (h : Below w.heap.size w W) => Frs.l10From_any lo n c A p f arg fuel s hl (hn6.2.mono (by omega)) (by omega) ha (isNum_iff hs) W (ho.below h))
   clear ha ho hsm hs h1 h2 h3 h4 h5 h6 hn6
   unfold Frs.FrmR at hru
   generalize frm p f arg fuel s = r at *
   go_enter Try.func33, Try.ntmps33
   go_wp2_with fail
   refine (hq.out _ (HAL.out _ _)).mono ?_
   rintro e w1 ⟨rfl, b1⟩
   have hb := hid (Blk.below (heap2_1 w (.cells #[.slice A n c] 35) (.cells #[.int .i64 0, .int .i64 0, .slice none 0 0, .int .i64 0] 56)) b1 (by simp))
   have ha0 := (Blk.below (heap2_0 w (.cells #[.slice A n c] 35) (.cells #[.int .i64 0, .int .i64 0, .slice none 0 0, .int .i64 0] 56)) b1 (by simp <;> omega)).cells
   have hbw := hid ((HAL.out _ _).trans (b1.mono (by simp <;> omega)))
   clear b1 hq
   go_wp2_with fail
   refine (hN.out _).mono ?_
   rintro e w9 ⟨rfl, rfl⟩
   go_wp2_with fail
   refine (hru.out _ hbw.out).mono ?_
   rintro e w2 ⟨A2, c2, rfl, ht, b2⟩
   unfold outval
   dsimp only
   have HT0 := hid (own_mono ht hbw.out.size)
   have HB0 := hid (hbw.out.trans (b2.mono hbw.out.size))
   have Y0 := hid (Blk.below hb.out b2 hb.out.lt)
   clear ht b2 hru ha0
   go_upto_region 4 with fail
   change (fun V => Code.wp _ _ _ _ V) _
   refine gen_world (X := fun V => Blk V w2.heap.size 56 #[.int .i64 (told r).kind, .int .i64 (told r).value, .slice A2 r.1.trace.length c2, .int .i64 (told r).spent] ∧ Blk V (w.heap.size + 1) 56 #[.int .i64 0, .int .i64 0, .slice none 0 0, .int .i64 0] ∧ Tre V w.heap.size (.slice A2 r.1.trace.length c2) r.1.trace ∧ Below w.heap.size w V) ⟨heap1_0 w2 _, Y0.out.alloc _, World.ownsRow.alloc HT0.out _, HB0.out.alloc HB0.out.size _⟩ ?_
   clear HT0 HB0 Y0 hb hbw
   rintro V ⟨v0, v1, v2, v3⟩
   have z0 := v0.cells
   have c1 := v1.cells
   have f1 := v1.frozen
   have Y := hid v1
   have HT := hid v2
   have HB := hid v3
   clear v0 v1 v2 v3
   go_wp2_with fail
   clear z0
   refine gen_post (X := fun V => Blk V (w.heap.size + 1) 56 #[.int .i64 (told r).kind, .int .i64 (told r).value, .slice A2 r.1.trace.length c2, .int .i64 (told r).spent] ∧ Tre V w.heap.size (.slice A2 r.1.trace.length c2) r.1.trace ∧ Below w.heap.size w V) ?_ ?_
   ·have n2 := blk_apart HT.out Y.out (by decide)
    refine ⟨Blk.set4 Y.out _ _ _ _, ?_, ?_⟩
    ·iterate 4 refine own_far ?_ _ _ n2
     exact HT.out
    ·iterate 4 refine Below.setCell ?_ (Nat.le_succ _) _
     exact HB.out
   clear c1 f1 Y HT HB
   intro V hV
   have V1 := hV.1.cells
   have HV := hid hV.2
   clear hV
   exact bodyPost_ret (v := .tuple #[.agg #[.int .i64 (told r).kind, .int .i64 (told r).value, .slice A2 r.1.trace.length c2, .int .i64 (told r).spent], .int .i64 r.1.shared, .bool true]) (by simp [results, Try.results33, go_sem, V1]) rfl ⟨A2, c2, by rw [hr.out]; rfl, by rw [hr.out]; exact HV.out.1, HV.out.2⟩
set_option maxRecDepth 100000 in
set_option maxHeartbeats 4000000 in
theorem fromI_any (lo n c : Nat) (A : Option Addr) (p : Pg) (f arg fuel s : Int) (hn : n ≤ 9223372036854775807) (hl : p.length = n) (hsm : Small p 9223372036854775807) (w : World) (ho : OwnP w lo (.slice A n c) p) :
  Calls Try.prog 34 #[.agg #[.slice A n c], .int .i64 f, .int .i64 arg, .int .i64 fuel, .int .i64 s] w (OutF (fromR p f arg fuel s) w) := by
 have hq := hid (fun W (h : Below w.heap.size w W) => canRun_any w.heap.size A n c p f arg fuel hn hl hsm W (ho.rd.below h) h.size)
 have hN := hid (fun W => Stp.isNumber_any s W)
 have hal : ∀ o1 o2 : Obj, Below w.heap.size w ((w.alloc o1).alloc o2) := fun o1 o2 => ((Below.refl _ _).alloc (Nat.le_refl _) _).alloc (by simp) _
 have HAL := hid hal
 clear hal
 cases ha : asks p f arg fuel with
 | false =>
  have hr := hid (fromR_no (s := s) (show ¬ (asks p f arg fuel = true ∧ isNum s = true) by rw [ha]; simp))
  rw [ha] at hq
  clear ha ho hsm
  go_enter Try.func34, Try.ntmps34
  go_wp2_with fail
  refine (hq.out _ (HAL.out _ _)).mono ?_
  rintro e w1 ⟨rfl, b1⟩
  have hb := hid (Blk.below (heap2_1 w (.cells #[.slice A n c] 35) (.cells #[.int .i64 0, .int .i64 0, .slice none 0 0, .int .i64 0] 56)) b1 (by simp))
  have ha0 := (Blk.below (heap2_0 w (.cells #[.slice A n c] 35) (.cells #[.int .i64 0, .int .i64 0, .slice none 0 0, .int .i64 0] 56)) b1 (by simp <;> omega)).cells
  have hbw := hid ((HAL.out _ _).trans (b1.mono (by simp <;> omega)))
  clear b1 hq
  clear ha0
  have c1 := hb.out.cells
  have f1 := hb.out.frozen
  go_wp2_with fail
  refine gen_post (X := fun V => Blk V (w.heap.size + 1) 56 #[.int .i64 0, .int .i64 0, .slice none 0 0, .int .i64 0] ∧ Below w.heap.size w V) ⟨Blk.set4 hb.out _ _ _ _, ?_⟩ ?_
  ·iterate 4 refine Below.setCell ?_ (Nat.le_succ _) _
   exact hbw.out
  intro V hV
  have V1 := hV.1.cells
  have HV := hid hV.2
  clear hV c1 f1
  exact bodyPost_ret (v := .tuple #[.agg #[.int .i64 0, .int .i64 0, .slice none 0 0, .int .i64 0], .int .i64 0, .bool false]) (by simp [results, Try.results34, go_sem, V1]) rfl ⟨none, 0, by rw [hr.out]; rfl, by rw [hr.out]; exact World.ownsRow_nil _ _ _ _, HV.out⟩
 | true =>
  rw [ha] at hq
  cases hs : isNum s with
  | false =>
   have hr := hid (fromR_no (show ¬ (asks p f arg fuel = true ∧ isNum s = true) by rw [hs]; simp))
   rw [hs] at hN
   clear ha ho hsm hs
   go_enter Try.func34, Try.ntmps34
   go_wp2_with fail
   refine (hq.out _ (HAL.out _ _)).mono ?_
   rintro e w1 ⟨rfl, b1⟩
   have hb := hid (Blk.below (heap2_1 w (.cells #[.slice A n c] 35) (.cells #[.int .i64 0, .int .i64 0, .slice none 0 0, .int .i64 0] 56)) b1 (by simp))
   have ha0 := (Blk.below (heap2_0 w (.cells #[.slice A n c] 35) (.cells #[.int .i64 0, .int .i64 0, .slice none 0 0, .int .i64 0] 56)) b1 (by simp <;> omega)).cells
   have hbw := hid ((HAL.out _ _).trans (b1.mono (by simp <;> omega)))
   clear b1 hq
   clear ha0
   go_wp2_with fail
   refine (hN.out _).mono ?_
   rintro e w9 ⟨rfl, rfl⟩
   have c1 := hb.out.cells
   have f1 := hb.out.frozen
   go_wp2_with fail
   refine gen_post (X := fun V => Blk V (w.heap.size + 1) 56 #[.int .i64 0, .int .i64 0, .slice none 0 0, .int .i64 0] ∧ Below w.heap.size w V) ⟨Blk.set4 hb.out _ _ _ _, ?_⟩ ?_
   ·iterate 4 refine Below.setCell ?_ (Nat.le_succ _) _
    exact hbw.out
   intro V hV
   have V1 := hV.1.cells
   have HV := hid hV.2
   clear hV c1 f1
   exact bodyPost_ret (v := .tuple #[.agg #[.int .i64 0, .int .i64 0, .slice none 0 0, .int .i64 0], .int .i64 0, .bool false]) (by simp [results, Try.results34, go_sem, V1]) rfl ⟨none, 0, by rw [hr.out]; rfl, by rw [hr.out]; exact World.ownsRow_nil _ _ _ _, HV.out⟩
  | true =>
   rw [hs] at hN
   obtain ⟨h1, h2, h3, h4, h5, h6⟩ := start_wf (n := n) ha
   have hr := hid (fromR_yes ha hs)
   have hru := hid (fun (mb : Nat) (W : World) (hb : Below w.heap.size w W) (h0 : w.heap.size ≤ mb) (h1' : mb < W.heap.size) (hm : Blk W mb 104 #[.slice A n c, .int .i64 fuel, .int .i64 0, .int .i64 0, .int .i64 s, .slice none 0 0]) =>
    outcome_any (Ap := A) (cp := c) (fuel := fuel) h1 hl w.heap.size mb W s f arg ⟨startS_m h5 h6 (isNum_iff hs) (by show (600 : Int) ≤ 3000 - 2 * 0; decide), newFrame_wf f 1 arg h2 (by rw [← hl]; exact h3) h4⟩
     ⟨hb.size, h0, h1', fun d hd => (by cases hd), fun d hd => (by cases hd), fun x hx => by simp [Value.ownBlock] at hx, fun x hx => hx.elim⟩ hm (ho.rd.below hb))
   clear ha ho hsm h1 h2 h3 h4 h5 h6
   unfold OutcI at hru
   generalize frm p f arg fuel s = r at *
   go_enter Try.func34, Try.ntmps34
   go_wp2_with fail
   refine (hq.out _ (HAL.out _ _)).mono ?_
   rintro e w1 ⟨rfl, b1⟩
   have hb := hid (Blk.below (heap2_1 w (.cells #[.slice A n c] 35) (.cells #[.int .i64 0, .int .i64 0, .slice none 0 0, .int .i64 0] 56)) b1 (by simp))
   have ha0 := (Blk.below (heap2_0 w (.cells #[.slice A n c] 35) (.cells #[.int .i64 0, .int .i64 0, .slice none 0 0, .int .i64 0] 56)) b1 (by simp <;> omega)).cells
   have hbw := hid ((HAL.out _ _).trans (b1.mono (by simp <;> omega)))
   clear b1 hq
   go_wp2_with fail
   refine (hN.out _).mono ?_
   rintro e w9 ⟨rfl, rfl⟩
   go_wp2_with fail
   have hsz := hbw.out.size
   have hb2 : Below w.heap.size w (w1.alloc (.cells #[.slice A n c, .int .i64 fuel, .int .i64 0, .int .i64 0, .int .i64 s, .slice none 0 0] 104)) := hbw.out.alloc hsz _
   refine (hru.out w1.heap.size _ hb2 hsz (by simp) (heap1_0 w1 _)).mono ?_
   rintro e w2 ⟨A2, c2, op, rfl, g⟩
   have hbe : Below w.heap.size w w2 := hb2.trans (g.chg.below hb2.size (fun x hx hc => by
    rcases hc with e | e | ⟨d, hd, _⟩ | e
    ·omega
    ·simp [Value.ownBlock] at e
    ·cases hd
    ·exact e.elim))
   have Y0 := hid ((hb.out.alloc (.cells #[.slice A n c, .int .i64 fuel, .int .i64 0, .int .i64 0, .int .i64 s, .slice none 0 0] 104)).chg g.chg (fun hc => by
    have := hb.out.lt
    rcases hc with e | e | ⟨d, hd, _⟩ | e
    ·omega
    ·simp [Value.ownBlock] at e
    ·cases hd
    ·exact e.elim))
   have HT0 := hid g.tre
   have HB0 := hid hbe
   have HM0 := hid g.mach
   have hl2 := Y0.out.lt
   unfold outval
   dsimp only
   clear g hbe hb2 hru ha0 hb hbw
   go_upto_region 5 with fail
   change (fun V => Code.wp _ _ _ _ V) _
   refine gen_world (X := fun V => Blk V w2.heap.size 56 #[.int .i64 (told r).kind, .int .i64 (told r).value, .slice A2 r.1.trace.length c2, .int .i64 (told r).spent] ∧ Blk V w1.heap.size 104 (icells (.slice A n c) fuel r.1 op (.slice A2 r.1.trace.length c2)) ∧ Blk V (w.heap.size + 1) 56 #[.int .i64 0, .int .i64 0, .slice none 0 0, .int .i64 0] ∧ Tre V w.heap.size (.slice A2 r.1.trace.length c2) r.1.trace ∧ Below w.heap.size w V) ⟨heap1_0 w2 _, HM0.out.alloc _, Y0.out.alloc _, World.ownsRow.alloc HT0.out _, HB0.out.alloc HB0.out.size _⟩ ?_
   clear HT0 HB0 Y0 HM0
   rintro V ⟨v0, vm, v1, v2, v3⟩
   have z0 := v0.cells
   have zm := vm.cells
   have c1 := v1.cells
   have f1 := v1.frozen
   unfold icells at zm
   have hne : w.heap.size + 1 ≠ w1.heap.size := by have := blk_ne v1 vm (by decide); exact this
   have hne2 : w.heap.size + 1 < w2.heap.size := hl2
   have Y := hid v1
   have HT := hid v2
   have HB := hid v3
   clear v0 vm v1 v2 v3
   go_wp2_with fail
   go_region
   clear z0 zm hne hne2 hl2
   change (fun V => Exit.then _ _ _ _ V) _
   refine gen_world (X := fun V => Blk V (w.heap.size + 1) 56 #[.int .i64 (told r).kind, .int .i64 (told r).value, .slice A2 r.1.trace.length c2, .int .i64 (told r).spent] ∧ Tre V w.heap.size (.slice A2 r.1.trace.length c2) r.1.trace ∧ Below w.heap.size w V) ?_ ?_
   ·have n2 := blk_apart HT.out Y.out (by decide)
    refine ⟨blk_drew (Blk.set4 Y.out _ _ _ _), World.ownsRow.drew (?_), Below.drew (?_)⟩
    ·iterate 4 refine own_far ?_ _ _ n2
     exact HT.out
    ·iterate 4 refine Below.setCell ?_ (Nat.le_succ _) _
     exact HB.out
   clear c1 f1 Y HT HB
   intro V hV
   have V1 := hV.1.cells
   have HV := hid hV.2
   clear hV
   go_wp2_with fail
   exact bodyPost_ret (v := .tuple #[.agg #[.int .i64 (told r).kind, .int .i64 (told r).value, .slice A2 r.1.trace.length c2, .int .i64 (told r).spent], .int .i64 r.1.shared, .bool true]) (by simp [results, Try.results34, go_sem, V1]) rfl ⟨A2, c2, by rw [hr.out]; rfl, by rw [hr.out]; exact HV.out.1, HV.out.2⟩
end Go.Proofs.Ythejnpignlhgiaa.Fri
-- squeezed
