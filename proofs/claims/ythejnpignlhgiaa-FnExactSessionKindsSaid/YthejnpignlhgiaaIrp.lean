import Derived.Test.YthejnpignlhgiaaStS
import Derived.Test.YthejnpignlhgiaaM18
set_option linter.all false
namespace Go.Proofs.Ythejnpignlhgiaa.Irp
open Lib (hid)
open Go.ChangeShapes Go.WideShapes Go.ChangeAt Go.RowKit
open PL Mem Srun Sst Imem Icall Irun To AskP Res Swhole Sout StS
section
variable {w : World} {lo mb : Nat} {vp : Value} {fuel : Int} {tv0 tv : Value} {op : Int} {m : M} {o : Obj} {W W' : World} {cs ms : Array Value} {m' : M}
theorem ilf_oc (l : Ilf ((w.alloc o : World) : Bs) lo mb vp fuel tv0 none tv op m W) (hb : Blk W w.heap.size 56 cs) (hch : Chg (fun b => b = w.heap.size) W W') : Ilf (w : World) lo mb vp fuel tv0 none tv op m W' :=
 ⟨own_chg l.tre hch (fun x hx e => blk_apart l.tre hb (by decide) (e ▸ hx)), l.mach.chg hch (ne_blk l.mach hb (by decide)), ((Chg.alloc _ w o).trans l.chg (fun _ _ h => h)).trans hch (fun x hx e => absurd e (Nat.ne_of_lt hx)), fun x hx => by
  rcases l.ft x hx with e | e
  ·exact .inl e
  ·have : w.heap.size ≤ (w.alloc o).heap.size := by rw [World.size_alloc]; omega
   exact .inr (Nat.le_trans this e)⟩
theorem ilf_stay (l : Ilf ((w : World) : Bs) lo mb vp fuel tv0 none tv op m W) {g : Nat} (hb : Blk w g 56 cs) (ht : Tre w lo tv0 m'.trace) (hm : Blk w mb 104 ms) : Blk W g 56 cs :=
 hb.chg l.chg (fun hc => by
  rcases hc with e | e | ⟨d, hd, e⟩ | e
  ·exact ne_blk hb hm (by decide) e
  ·exact blk_apart ht hb (by decide) e
  ·cases hd
  ·exact e.elim)
theorem ilf_new (l : Ilf ((w : World) : Bs) lo mb vp fuel tv0 none tv op m W) (o' : Obj) : Ilf ((w : World) : Bs) lo mb vp fuel tv0 none tv op m (W.alloc o') :=
 ⟨World.ownsRow.alloc l.tre _, l.mach.alloc _, l.chg.new _, l.ft⟩
end
def OutcI (w : World) (lo mb : Nat) (vp : Value) (fuel : Int) (r : M × Fr) (e : Ending) (W' : World) : Prop :=
 ∃ A2 c2 op', e = .returned (outval (told r) (.slice A2 r.1.trace.length c2)) ∧ Ilf (w : World) lo mb vp fuel (.slice none 0 0) none (.slice A2 r.1.trace.length c2) op' r.1 W'
set_option maxRecDepth 100000 in
set_option maxHeartbeats 4000000 in
theorem outcome_any {Ap : Option Addr} {np cp : Nat} {fuel : Int} {p : Pg} (hp : okProg p = true) (hn : p.length = np) (lo mb : Nat) (w : World) (s f arg : Int) (hi : Inv np fuel 3000 (startS s) (newFrame f 1 arg)) (hb : Bse (w : World) lo mb (.slice none 0 0) none)
  (hm : Blk w mb 104 #[.slice Ap np cp, .int .i64 fuel, .int .i64 0, .int .i64 0, .int .i64 s, .slice none 0 0]) (hrd : RdP w lo Ap p) :
  Calls Try.prog 82 #[.pointer (some ⟨mb, 0, none⟩), .int .i64 f, .int .i64 arg] w (OutcI w lo mb (.slice Ap np cp) fuel (frm p f arg fuel s)) := by
 have hal : Below lo w (w.alloc (.cells #[.int .i64 0, .int .i64 0, .slice none 0 0, .int .i64 0] 56)) := (Below.refl _ _).alloc hb.l0 _
 have hru := hid (run_any hp hn lo mb (.slice none 0 0) (w.alloc (.cells #[.int .i64 0, .int .i64 0, .slice none 0 0, .int .i64 0] 56)) (startS s) f arg hi rfl
  ⟨Nat.le_trans hb.l0 hal.size, hb.m0, Nat.lt_of_lt_of_le hb.m1 hal.size, fun d hd => (by cases hd), fun d hd => (by cases hd), hb.t0, fun x hx => hx.elim⟩ (World.ownsRow_nil _ _ _ _) (hm.alloc _) (hrd.below hal))
 have HM0 := hid (hm.alloc (.cells #[.int .i64 0, .int .i64 0, .slice none 0 0, .int .i64 0] 56))
 have HB0 := hid (heap1_0 w (.cells #[.int .i64 0, .int .i64 0, .slice none 0 0, .int .i64 0] 56))
 unfold frm
 generalize PL.call p fuel 8 (startS s) (newFrame f 1 arg) = r at *
 clear hi hb hm hrd hal
 go_enter Try.func82, Try.ntmps82
 go_wp2_with fail
 refine hru.out.mono ?_
 rintro e w2 ⟨tv, op, rfl, g⟩
 obtain ⟨A2, c2, rfl⟩ := own_slice g.tre
 have hbx := hid (ilf_stay (m' := startS s) g HB0.out (World.ownsRow_nil _ _ _ _) HM0.out)
 have G := hid g
 clear g hru HM0 HB0
 go_upto_region 2 with fail
 change (fun V => Code.wp _ _ _ _ V) _
 refine gen_world (X := fun V => Blk V w2.heap.size 162 #[.int .i64 (told r).kind, .int .i64 (told r).value] ∧ Blk V w.heap.size 56 #[.int .i64 0, .int .i64 0, .slice none 0 0, .int .i64 0] ∧
   Ilf ((w.alloc (.cells #[.int .i64 0, .int .i64 0, .slice none 0 0, .int .i64 0] 56) : World) : Bs) lo mb (.slice Ap np cp) fuel (.slice none 0 0) none (.slice A2 r.1.trace.length c2) op r.1 V) ⟨heap1_0 w2 _, hbx.out.alloc _, ilf_new G.out _⟩ ?_
 clear G hbx
 intro V hV
 obtain ⟨v0, v1, v2⟩ := hV
 have z0 := v0.cells
 have z1 := v2.mach.cells
 have z2 := v1.cells
 have f2 := v1.frozen
 unfold icells at z1
 have V1 := hid v1
 have V2 := hid v2
 clear v0 v1 v2
 go_region
 change (fun V => Exit.then _ _ _ _ V) _
 refine gen_world (X := fun V => Blk V w.heap.size 56 #[.int .i64 (told r).kind, .int .i64 (told r).value, .slice A2 r.1.trace.length c2, .int .i64 r.1.made] ∧ Ilf (w : World) lo mb (.slice Ap np cp) fuel (.slice none 0 0) none (.slice A2 r.1.trace.length c2) op r.1 V) ?_ ?_
 ·refine ⟨blk_drew (Blk.set4 V1.out _ _ _ _), ilf_oc V2.out V1.out ?_⟩
  exact (((((Chg.refl (fun b => b = w.heap.size) V).put ⟨w.heap.size, 0, none⟩ _ (.inr rfl)).put ⟨w.heap.size, 1, none⟩ _ (.inr rfl)).put ⟨w.heap.size, 2, none⟩ _ (.inr rfl)).put ⟨w.heap.size, 3, none⟩ _ (.inr rfl)).trans (Chg.drew _ _) (fun _ _ h => h)
 clear z0 z1 z2 f2 V1 V2
 intro V hV
 have V1 := hV.1.cells
 have HV := hid hV.2
 clear hV
 go_wp2_with fail
 exact bodyPost_ret (v := .agg #[.int .i64 (told r).kind, .int .i64 (told r).value, .slice A2 r.1.trace.length c2, .int .i64 r.1.made]) (by simp [results, Try.results82, go_sem, V1]) rfl ⟨A2, c2, op, rfl, HV.out⟩
set_option maxRecDepth 100000 in
set_option maxHeartbeats 4000000 in
theorem runI_any (lo n c : Nat) (A : Option Addr) (p : Pg) (f arg fuel : Int) (hn : n ≤ 9223372036854775807) (hl : p.length = n) (hsm : Small p 9223372036854775807) (w : World) (ho : OwnP w lo (.slice A n c) p) :
  Calls Try.prog 72 #[.agg #[.slice A n c], .int .i64 f, .int .i64 arg, .int .i64 fuel] w (OutR (runR p f arg fuel) w) := by
 have hq := hid (fun W (h : Below w.heap.size w W) => canRun_any w.heap.size A n c p f arg fuel hn hl hsm W (ho.rd.below h) h.size)
 have hal : ∀ o1 o2 : Obj, Below w.heap.size w ((w.alloc o1).alloc o2) := fun o1 o2 => ((Below.refl _ _).alloc (Nat.le_refl _) _).alloc (by simp) _
 cases ha : asks p f arg fuel with
 | false =>
  have hr := hid (show runR p f arg fuel = ({ kind := 0, value := 0, trace := [], spent := 0 }, false) by unfold runR; rw [ha]; rfl)
  rw [ha] at hq
  have HAL := hid hal
  clear ha ho hsm hal
  go_enter Try.func72, Try.ntmps72
  go_wp2_with fail
  refine (hq.out _ (HAL.out _ _)).mono ?_
  rintro e w1 ⟨rfl, b1⟩
  have hb := hid (Blk.below (heap2_1 w (.cells #[.slice A n c] 35) (.cells #[.int .i64 0, .int .i64 0, .slice none 0 0, .int .i64 0] 56)) b1 (by simp))
  have hbw := hid ((HAL.out _ _).trans (b1.mono (by simp <;> omega)))
  have c1 := hb.out.cells
  have f1 := hb.out.frozen
  clear b1 hq
  go_wp2_with fail
  refine gen_post (X := fun V => Blk V (w.heap.size + 1) 56 #[.int .i64 0, .int .i64 0, .slice none 0 0, .int .i64 0] ∧ Below w.heap.size w V) ⟨Blk.set4 hb.out _ _ _ _, ?_⟩ ?_
  ·iterate 4 refine Below.setCell ?_ (Nat.le_succ _) _
   exact hbw.out
  intro V hV
  have V1 := hV.1.cells
  have HV := hid hV.2
  clear hV c1 f1
  exact bodyPost_ret (v := .tuple #[.agg #[.int .i64 0, .int .i64 0, .slice none 0 0, .int .i64 0], .bool false]) (by simp [results, Try.results72, go_sem, V1]) rfl ⟨none, 0, by rw [hr.out]; rfl, by rw [hr.out]; exact World.ownsRow_nil _ _ _ _, HV.out⟩
 | true =>
  obtain ⟨h1, h2, h3, h4, h5, h6⟩ := start_wf (n := n) ha
  have hr := hid (show runR p f arg fuel = (run p fuel f arg, true) by unfold runR; rw [ha]; rfl)
  have hru := hid (fun (mb : Nat) (W : World) (hb : Below w.heap.size w W) (h0 : w.heap.size ≤ mb) (h1' : mb < W.heap.size) (hm : Blk W mb 104 #[.slice A n c, .int .i64 fuel, .int .i64 0, .int .i64 0, .int .i64 0, .slice none 0 0]) =>
   outcome_any (Ap := A) (cp := c) (fuel := fuel) h1 hl w.heap.size mb W 0 f arg ⟨startS_m h5 h6 N16_0 (by show (600 : Int) ≤ 3000 - 2 * 0; decide), newFrame_wf f 1 arg h2 (by rw [← hl]; exact h3) h4⟩
    ⟨hb.size, h0, h1', fun d hd => (by cases hd), fun d hd => (by cases hd), fun x hx => by simp [Value.ownBlock] at hx, fun x hx => hx.elim⟩ hm (ho.rd.below hb))
  rw [ha] at hq
  have HAL := hid hal
  unfold run at hr
  rw [← frm_zero] at hr
  clear ha ho hsm hal h1 h2 h3 h4 h5 h6
  unfold OutcI at hru
  generalize frm p f arg fuel 0 = r at *
  go_enter Try.func72, Try.ntmps72
  go_wp2_with fail
  refine (hq.out _ (HAL.out _ _)).mono ?_
  rintro e w1 ⟨rfl, b1⟩
  have hb := hid (Blk.below (heap2_1 w (.cells #[.slice A n c] 35) (.cells #[.int .i64 0, .int .i64 0, .slice none 0 0, .int .i64 0] 56)) b1 (by simp))
  have ha0 := (Blk.below (heap2_0 w (.cells #[.slice A n c] 35) (.cells #[.int .i64 0, .int .i64 0, .slice none 0 0, .int .i64 0] 56)) b1 (by simp <;> omega)).cells
  have hbw := hid ((HAL.out _ _).trans (b1.mono (by simp <;> omega)))
  clear b1 hq
  go_wp2_with fail
  have hsz := hbw.out.size
  have hb2 : Below w.heap.size w (w1.alloc (.cells #[.slice A n c, .int .i64 fuel, .int .i64 0, .int .i64 0, .int .i64 0, .slice none 0 0] 104)) := hbw.out.alloc hsz _
  refine (hru.out w1.heap.size _ hb2 hsz (by simp) (heap1_0 w1 _)).mono ?_
  rintro e w2 ⟨A2, c2, op, rfl, g⟩
  have hbe : Below w.heap.size w w2 := hb2.trans (g.chg.below hb2.size (fun x hx hc => by
   rcases hc with e | e | ⟨d, hd, _⟩ | e
   ·omega
   ·simp [Value.ownBlock] at e
   ·cases hd
   ·exact e.elim))
  have hres := hid ((hb.out.alloc (.cells #[.slice A n c, .int .i64 fuel, .int .i64 0, .int .i64 0, .int .i64 0, .slice none 0 0] 104)).chg g.chg (fun hc => by
   have := hb.out.lt
   rcases hc with e | e | ⟨d, hd, _⟩ | e
   ·omega
   ·simp [Value.ownBlock] at e
   ·cases hd
   ·exact e.elim))
  have HT := hid g.tre
  have HB := hid hbe
  have c1 := hres.out.cells
  have f1 := hres.out.frozen
  clear g hbe hb2 hru ha0 hb hbw
  unfold outval
  go_wp2_with fail
  refine gen_post (X := fun V => Blk V (w.heap.size + 1) 56 #[.int .i64 (told r).kind, .int .i64 (told r).value, .slice A2 r.1.trace.length c2, .int .i64 (told r).spent] ∧ Tre V w.heap.size (.slice A2 r.1.trace.length c2) r.1.trace ∧ Below w.heap.size w V) ?_ ?_
  ·have n2 := blk_apart HT.out hres.out (by decide)
   refine ⟨Blk.set4 hres.out _ _ _ _, ?_, ?_⟩
   ·iterate 4 refine own_far ?_ _ _ n2
    exact HT.out
   ·iterate 4 refine Below.setCell ?_ (Nat.le_succ _) _
    exact HB.out
  clear c1 f1 hres HT HB
  intro V hV
  have V1 := hV.1.cells
  have HV := hid hV.2
  clear hV
  exact bodyPost_ret (v := .tuple #[.agg #[.int .i64 (told r).kind, .int .i64 (told r).value, .slice A2 r.1.trace.length c2, .int .i64 (told r).spent], .bool true]) (by simp [results, Try.results72, go_sem, V1]) rfl ⟨A2, c2, by rw [hr.out]; rfl, by rw [hr.out]; exact HV.out.1, HV.out.2⟩
end Go.Proofs.Ythejnpignlhgiaa.Irp
-- squeezed
