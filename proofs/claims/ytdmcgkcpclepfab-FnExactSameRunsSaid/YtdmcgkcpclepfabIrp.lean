import Derived.Test.YtdmcgkcpclepfabM12
import Derived.Test.YtdmcgkcpclepfabM18
set_option linter.all false
namespace Go.Proofs.Ytdmcgkcpclepfab.Irp
open Lib (hid)
open Go.ChangeShapes Go.WideShapes Go.ChangeAt Go.RowKit
open PL Mem Srun Sst Imem Icall Irun To AskP Res Swhole Sout
set_option maxRecDepth 100000 in
set_option maxHeartbeats 4000000 in
theorem runI_any (lo n c : Nat) (A : Option Addr) (p : Pg) (f arg fuel : Int) (hn : n ≤ 9223372036854775807) (hl : p.length = n) (hsm : Small p 9223372036854775807) (w : World) (ho : OwnP w lo (.slice A n c) p) :
  Calls Try.prog 44 #[.agg #[.slice A n c], .int .i64 f, .int .i64 arg, .int .i64 fuel] w (OutR (runR p f arg fuel) w) := by
 have hq := hid (fun W (h : Below w.heap.size w W) => canRun_any w.heap.size A n c p f arg fuel hn hl hsm W (ho.rd.below h) h.size)
 have hal : ∀ o1 o2 : Obj, Below w.heap.size w ((w.alloc o1).alloc o2) := fun o1 o2 => ((Below.refl _ _).alloc (Nat.le_refl _) _).alloc (by simp) _
 cases ha : asks p f arg fuel with
 | false =>
  have hr := hid (show runR p f arg fuel = ({ kind := 0, value := 0, trace := [], spent := 0 }, false) by unfold runR; rw [ha]; rfl)
  rw [ha] at hq
  have HAL := hid hal
  clear ha ho hsm hal
  go_enter Try.func44, Try.ntmps44
  go_wp2_with fail
  refine (hq.out _ (HAL.out _ _)).mono ?_
  rintro e w1 ⟨rfl, b1⟩
  have hb := hid (Blk.below (heap2_1 w (.cells #[.slice A n c] 30) (.cells #[.int .i64 0, .int .i64 0, .slice none 0 0, .int .i64 0] 77)) b1 (by simp))
  have hbw := hid ((HAL.out _ _).trans (b1.mono (by simp <;> omega)))
  have c1 := hb.out.cells
  have f1 := hb.out.frozen
  clear b1 hq
  go_wp2_with fail
  refine gen_post (X := fun V => Blk V (w.heap.size + 1) 77 #[.int .i64 0, .int .i64 0, .slice none 0 0, .int .i64 0] ∧ Below w.heap.size w V) ⟨Blk.set4 hb.out _ _ _ _, ?_⟩ ?_
  ·iterate 4 refine Below.setCell ?_ (Nat.le_succ _) _
   exact hbw.out
  intro V hV
  have V1 := hV.1.cells
  have HV := hid hV.2
  clear hV c1 f1
  exact bodyPost_ret (v := .tuple #[.agg #[.int .i64 0, .int .i64 0, .slice none 0 0, .int .i64 0], .bool false]) (by simp [results, Try.results44, go_sem, V1]) rfl ⟨none, 0, by rw [hr.out]; rfl, by rw [hr.out]; exact World.ownsRow_nil _ _ _ _, HV.out⟩
 | true =>
  obtain ⟨h1, h2, h3, h4, h5, h6⟩ := start_wf (n := n) ha
  have hr := hid (show runR p f arg fuel = (run p fuel f arg, true) by unfold runR; rw [ha]; rfl)
  have hru := hid (fun (mb : Nat) (W : World) (hb : Below w.heap.size w W) (h0 : w.heap.size ≤ mb) (h1' : mb < W.heap.size) (hm : Blk W mb 113 #[.slice A n c, .int .i64 fuel, .int .i64 0, .int .i64 0, .int .i64 0, .slice none 0 0]) =>
   run_any (Ap := A) (cp := c) (fuel := fuel) h1 hl w.heap.size mb (.slice none 0 0) W PL.start f arg ⟨start_m h5 h6 (by show (600 : Int) ≤ 3000 - 2 * 0; decide), newFrame_wf f 1 arg h2 (by rw [← hl]; exact h3) h4⟩ rfl
    ⟨hb.size, h0, h1', fun d hd => (by cases hd), fun d hd => (by cases hd), fun x hx => by simp [Value.ownBlock] at hx, fun x hx => hx.elim⟩ (World.ownsRow_nil _ _ _ _) hm (ho.rd.below hb))
  rw [ha] at hq
  have HAL := hid hal
  unfold run whole at hr
  clear ha ho hsm hal h1 h2 h3 h4 h5 h6
  generalize PL.call p fuel 8 PL.start (newFrame f 1 arg) = r at *
  go_enter Try.func44, Try.ntmps44
  go_wp2_with fail
  refine (hq.out _ (HAL.out _ _)).mono ?_
  rintro e w1 ⟨rfl, b1⟩
  have hb := hid (Blk.below (heap2_1 w (.cells #[.slice A n c] 30) (.cells #[.int .i64 0, .int .i64 0, .slice none 0 0, .int .i64 0] 77)) b1 (by simp))
  have ha0 := (Blk.below (heap2_0 w (.cells #[.slice A n c] 30) (.cells #[.int .i64 0, .int .i64 0, .slice none 0 0, .int .i64 0] 77)) b1 (by simp <;> omega)).cells
  have hbw := hid ((HAL.out _ _).trans (b1.mono (by simp <;> omega)))
  clear b1 hq
  go_wp2_with fail
  have hsz := hbw.out.size
  have hb2 : Below w.heap.size w (w1.alloc (.cells #[.slice A n c, .int .i64 fuel, .int .i64 0, .int .i64 0, .int .i64 0, .slice none 0 0] 113)) := hbw.out.alloc hsz _
  refine (hru.out w1.heap.size _ hb2 hsz (by simp) (heap1_0 w1 _)).mono ?_
  rintro e w2 ⟨tv, op, rfl, g⟩
  obtain ⟨A2, c2, rfl⟩ := own_slice g.tre
  have hbe : Below w.heap.size w w2 := hb2.trans (g.chg.below hb2.size (fun x hx hc => by
   rcases hc with e | e | ⟨d, hd, _⟩ | e
   ·omega
   ·simp [Value.ownBlock] at e
   ·cases hd
   ·exact e.elim))
  have hres := hid ((hb.out.alloc (.cells #[.slice A n c, .int .i64 fuel, .int .i64 0, .int .i64 0, .int .i64 0, .slice none 0 0] 113)).chg g.chg (fun hc => by
   have := hb.out.lt
   rcases hc with e | e | ⟨d, hd, _⟩ | e
   ·omega
   ·simp [Value.ownBlock] at e
   ·cases hd
   ·exact e.elim))
  have HT := hid g.tre
  have HM := hid g.mach
  have HB := hid hbe
  clear g hbe hb2 hru ha0 hb hbw
  go_upto_region 5 with fail
  change (fun V => Code.wp _ _ _ _ V) _
  refine gen_world (X := fun V => Blk V w2.heap.size 115 #[.int .i64 (told r).kind, .int .i64 (told r).value] ∧ Blk V w1.heap.size 113 (icells (.slice A n c) fuel r.1 op (.slice A2 r.1.trace.length c2)) ∧ Blk V (w.heap.size + 1) 77 #[.int .i64 0, .int .i64 0, .slice none 0 0, .int .i64 0] ∧
   Tre V w.heap.size (.slice A2 r.1.trace.length c2) r.1.trace ∧ Below w.heap.size w V) ⟨heap1_0 w2 _, HM.out.alloc _, hres.out.alloc _, World.ownsRow.alloc HT.out _, HB.out.alloc HB.out.size _⟩ ?_
  clear HT HM HB hres
  intro V hV
  obtain ⟨v0, v1, v2, v3, v4⟩ := hV
  have V2 := hid v2
  have V3 := hid v3
  have V4 := hid v4
  have z0 := v0.cells
  have z1 := v1.cells
  have z2 := v2.cells
  have f2 := v2.frozen
  unfold icells at z1
  clear v0 v1 v2 v3 v4
  go_wp2_with fail
  go_region
  first | change (fun V => Exit.then _ _ _ _ V) _ | change (fun V => Code.wp _ _ _ _ V) _
  refine gen_world (X := fun V => Blk V (w.heap.size + 1) 77 #[.int .i64 (told r).kind, .int .i64 (told r).value, .slice A2 r.1.trace.length c2, .int .i64 r.1.made] ∧ Tre V w.heap.size (.slice A2 r.1.trace.length c2) r.1.trace ∧ Below w.heap.size w V) ?_ ?_
  ·have n2 := blk_apart V3.out V2.out (by decide)
   refine ⟨blk_drew (Blk.set4 V2.out _ _ _ _), World.ownsRow.drew ?_, Below.drew ?_⟩
   ·iterate 4 refine own_far ?_ _ _ n2
    exact V3.out
   ·iterate 4 refine Below.setCell ?_ (Nat.le_succ _) _
    exact V4.out
  clear z0 z1 z2 f2 V2 V3 V4
  intro V hV
  have V1 := hV.1.cells
  have HV := hid hV.2
  clear hV
  go_wp2_with fail
  exact bodyPost_ret (v := .tuple #[.agg #[.int .i64 (told r).kind, .int .i64 (told r).value, .slice A2 r.1.trace.length c2, .int .i64 r.1.made], .bool true]) (by simp [results, Try.results44, go_sem, V1]) rfl ⟨A2, c2, by rw [hr.out]; rfl, by rw [hr.out]; exact HV.out.1, HV.out.2⟩
end Go.Proofs.Ytdmcgkcpclepfab.Irp
-- squeezed
