/- The model's reading of a run's panics; RecoveredBy, ReplacedBy, PanicDepths. (Written by wip/tools/genpo.py.) -/
import Derived.Test.YtgcjlkdahlfjlaaPt
import Derived.Test.YtgcjlkdahlfjlaaM12
import Derived.Test.YtgcjlkdahlfjlaaM2
import Derived.Test.YtgcjlkdahlfjlaaM24
set_option linter.unusedVariables false
set_option linter.unusedSimpArgs false
namespace Go.Proofs.Ytgcjlkdahlfjlaa.Po
open Go.ChangeShapes Go.WideShapes Go.ChangeAt Go.RowKit
open PL Mem Srun Sst Ssim Smk To OwnS AskP RunF Res Swhole Sout IntsP RowA LawI LawA PMem Psf Pw Px Py Pr Pz Pt

theorem out_field2' (a b c d : Value) (w : World) : (Instr.field 90 (.agg #[a, b, c, d]) 2).run Try.prog w = .ok c w := by kernel_rfl
theorem rec_field2 (a b c d e f g : Value) (w : World) : (Instr.field 61 (.agg #[a, b, c, d, e, f, g]) 2).run Try.prog w = .ok c w := by kernel_rfl
theorem rec_field4 (a b c d e f g : Value) (w : World) : (Instr.field 61 (.agg #[a, b, c, d, e, f, g]) 4).run Try.prog w = .ok e w := by kernel_rfl
theorem W4.low {V : World} {lo lo' : Nat} {h0 h1 h2 h3 h4 h5 h6 : Hd} {s : MS} (h : W4 V lo h0 h1 h2 h3 h4 h5 h6 s) (hl : lo' ≤ lo) : W4 V lo' h0 h1 h2 h3 h4 h5 h6 s := by
 obtain ⟨vals, hv, hu⟩ := h.unw
 refine ⟨own_mono h.calls hl, own_mono h.pan hl, own_mono h.dep hl, own_mono h.rcv hl, own_mono h.rep hl, own_mono h.bef hl, ⟨vals, own_mono hv hl, fun i xs hx => ?_⟩, h.a25, h.a26, h.a56⟩
 obtain ⟨A, c, k1, k2, k3, k4, k5⟩ := hu i xs hx
 exact ⟨A, c, k1, own_mono k2 hl, k3, k4, k5⟩
theorem run_len {p : Pg} {f arg fuel : Int} (ha : asks p f arg fuel = true) : (run p fuel f arg).trace.length ≤ 100000 := by
 have h := runR_len p f arg fuel
 unfold runR at h
 rw [ha] at h
 exact h
set_option maxRecDepth 100000 in
set_option maxHeartbeats 4000000 in
theorem l4Of_any (lo n c : Nat) (A : Option Addr) (p : Pg) (f arg fuel : Int) (hl : p.length = n) (hsm : Small p 100) (hn : n ≤ 100) (ha : asks p f arg fuel = true) (w : World) (ho : OwnP w lo (.slice A n c) p) :
  Calls Try.prog 55 #[.agg #[.slice A n c], .int .i64 f, .int .i64 arg, .int .i64 fuel] w fun e w' => ∃ h0 h1 h2 h3 h4 h5 h6, e = .returned (.agg (recV h0 h1 h2 h3 h4 h5 h6 (mds (run p fuel f arg).trace))) ∧ W4 w' w.heap.size h0 h1 h2 h3 h4 h5 h6 (mds (run p fuel f arg).trace) ∧ Below w.heap.size w w' := by
 have hru := Lib.hid (fun W (h : Below w.heap.size w W) => l2Run_any lo n c A p f arg fuel hl hsm hn ha W (ho.below h))
 have hlen := run_len ha
 have hpd : (pds (run p fuel f arg).trace).2 = true := whole_p p fuel f arg
 have HAL := Lib.hid (fun o1 o2 : Obj => (((Below.refl w.heap.size w).alloc (Nat.le_refl _) o1).alloc (by simp) o2))
 generalize run p fuel f arg = r at *
 obtain ⟨k, v, t, s⟩ := r
 dsimp only at hlen hpd ⊢
 obtain ⟨N, hN⟩ : ∃ N, t.length = N := ⟨_, rfl⟩
 rw [hN] at hlen
 have HN := Lib.hid hN
 have HPD := Lib.hid hpd
 clear ha ho hsm hpd hN
 go_enter Try.func55, Try.ntmps55
 go_wp2_with fail
 refine (hru.out _ (HAL.out _ _)).mono ?_
 rintro e w1 ⟨A2, c2, rfl, ht, b1⟩
 unfold outval
 have bz := (heap2_1 w (.cells #[.slice A n c] 31) (.cells z7 61))
 have BZ1 := Lib.hid (Blk.below (B := w.heap.size + 2) (show Blk ((w.alloc (.cells #[.slice A n c] 31)).alloc (.cells z7 61)) (w.heap.size + 1) 61 z7 from bz) (by simpa using b1) (by omega))
 have B1 := Lib.hid ((HAL.out (.cells #[.slice A n c] 31) (.cells z7 61)).trans (b1.mono (HAL.out _ _).size))
 have HT := Lib.hid (l4Trace_any w1.heap.size N c2 A2 t HN.out hlen HPD.out w1 (rd_own (n := N) (c := c2) (by have h := ht; unfold Tre at h; dsimp only at h; rw [HN.out] at h; exact h)) (Nat.le_refl _))
 dsimp only
 rw [HN.out]
 clear hru b1 ht bz
 have hf2 := fun u => out_field2' (.int .i64 k) (.int .i64 v) (.slice A2 N c2) (.int .i64 s) u
 go_wp2_with fail
 refine HT.out.mono ?_
 rintro e w2 ⟨h0, h1, h2, h3, h4, h5, h6, rfl, hW, b2⟩
 have hbz := BZ1.out.below b2 BZ1.out.lt
 have z1 := hbz.cells
 have f1 := hbz.frozen
 have BZ := Lib.hid hbz
 have WU := Lib.hid (W4.low hW B1.out.size)
 have CU := Lib.hid (Chg.of_below (C := fun _ => False) (B1.out.trans (b2.mono B1.out.size)))
 clear hf2 HT hW b2 hbz BZ1 B1
 generalize hs' : mds t = s' at *
 have HS' := Lib.hid hs'
 clear hs'
 go_wp2_with fail
 clear z1 f1
 refine gen_post (X := fun V => Blk V (w.heap.size + 1) 61 (recV h0 h1 h2 h3 h4 h5 h6 s') ∧ W4 V w.heap.size h0 h1 h2 h3 h4 h5 h6 s' ∧ Chg (fun _ => False) w V) ⟨Blk.all7 BZ.out rfl, WU.out.set7 BZ.out, chg7 CU.out (by omega)⟩ ?_
 clear BZ WU CU
 intro V hV
 have V1 := hV.1.cells
 have HV := Lib.hid hV.2
 clear hV
 exact bodyPost_ret (v := .agg (recV h0 h1 h2 h3 h4 h5 h6 s')) (by simp [results, Try.results55, go_sem, V1]) rfl ⟨h0, h1, h2, h3, h4, h5, h6, by rw [HS'.out], by rw [HS'.out]; exact HV.out.1, chg_false HV.out.2⟩
def panR (p : Pg) (f arg fuel : Int) : MS × Bool := if asks p f arg fuel then (mds (run p fuel f arg).trace, true) else (ms0, false)
theorem panR_lens (p : Pg) (f arg fuel : Int) : Lens (panR p f arg fuel).1 100000 := by
 unfold panR
 split
 ·rename_i ha
  have hl := run_len ha
  have h := mds_lens (whole_p p fuel f arg) (whole p fuel f arg).1.trace.length (Nat.le_refl _)
  rw [List.take_length] at h
  have e : (run p fuel f arg).trace = (whole p fuel f arg).1.trace := rfl
  rw [e] at hl ⊢
  exact ⟨Nat.le_trans h.stk hl, Nat.le_trans h.pan hl, Nat.le_trans h.rcv hl, Nat.le_trans h.next hl, fun x hx => Nat.le_trans (h.by_ x hx) hl⟩
 ·exact ⟨Nat.zero_le _, Nat.zero_le _, Nat.zero_le _, Nat.zero_le _, fun x hx => by cases hx⟩
def rcbR (p : Pg) (f arg fuel : Int) : List Pr × Bool := ((panR p f arg fuel).1.rcv, (panR p f arg fuel).2)
set_option maxRecDepth 100000 in
set_option maxHeartbeats 4000000 in
theorem rcbS_any (lo n c : Nat) (A : Option Addr) (p : Pg) (f arg fuel : Int) (hn : n ≤ 9223372036854775807) (hl : p.length = n) (hsm : Small p 9223372036854775807) (w : World) (ho : OwnP w lo (.slice A n c) p) :
  Calls Try.prog 29 #[.agg #[.slice A n c], .int .i64 f, .int .i64 arg, .int .i64 fuel] w (PrsR (rcbR p f arg fuel) w) := by
 have hq := Lib.hid (fun W (h : Below w.heap.size w W) => l2Ask_any w.heap.size A n c p f arg fuel hn hl hsm W (ho.rd.below h) h.size)
 have HAL := Lib.hid (fun o1 : Obj => ((Below.refl w.heap.size w).alloc (Nat.le_refl _) o1))
 cases ha : asks p f arg fuel with
 | false =>
  have hr := Lib.hid (show rcbR p f arg fuel = ([], false) by unfold rcbR panR; rw [ha]; rfl)
  rw [ha] at hq
  clear ha ho hsm
  go_enter Try.func29, Try.ntmps29
  go_wp2_with fail
  refine (hq.out _ (HAL.out _)).mono ?_
  rintro e w1 ⟨rfl, b1⟩
  have B := Lib.hid ((HAL.out (.cells #[.slice A n c] 31)).trans (b1.mono (HAL.out (.cells #[.slice A n c] 31)).size))
  clear b1
  go_wp2_with fail
  go_ret2
  exact ⟨_, _, by rw [hr.out] <;> rfl, by rw [hr.out]; exact App.empty_own (heap1_0 w1 _) B.out.size, B.out.alloc B.out.size _⟩
 | true =>
  obtain ⟨g1, g2, g3, g4, g5, g6⟩ := start_wf (n := n) ha
  have hn6 : p.length ≤ 6 ∧ Small p 8 := okProg_small g1
  have hru := Lib.hid (fun W (h : Below w.heap.size w W) => l4Of_any lo n c A p f arg fuel hl (hn6.2.mono (by omega)) (by omega) ha W (ho.below h))
  have hrr : panR p f arg fuel = (mds (run p fuel f arg).trace, true) := by unfold panR; rw [ha]; rfl
  have hr : rcbR p f arg fuel = ((mds (run p fuel f arg).trace).rcv, true) := by unfold rcbR; rw [hrr]
  rw [ha] at hq
  clear ha ho hsm g1 g2 g3 g4 g5 g6 hn6 hrr
  generalize mds (run p fuel f arg).trace = s at *
  have HR := Lib.hid hr
  clear hr
  go_enter Try.func29, Try.ntmps29
  go_wp2_with fail
  refine (hq.out _ (HAL.out _)).mono ?_
  rintro e w1 ⟨rfl, b1⟩
  have a1' : w1.cell? ⟨w.heap.size, 0, none⟩ = some (.slice A n c) := (Blk.below (B := w.heap.size + 1) (heap1_0 w (.cells #[.slice A n c] 31)) (by simpa using b1) (by omega)).cells 0
  have bb := Lib.hid ((HAL.out (.cells #[.slice A n c] 31)).trans (b1.mono (HAL.out (.cells #[.slice A n c] 31)).size))
  clear b1 hq
  go_wp2_with fail
  refine (hru.out _ bb.out).mono ?_
  rintro e w2 ⟨h0, h1, h2, h3, h4, h5, h6, rfl, hW, b2⟩
  have hf := fun u => rec_field4 (.slice h0.A s.stk.length h0.c) (.slice h1.A s.pan.length h1.c) (.slice h2.A s.pan.length h2.c) (.slice h3.A s.pan.length h3.c) (.slice h4.A s.rcv.length h4.c) (.slice h5.A s.pan.length h5.c) (.slice h6.A s.pan.length h6.c) u
  have B2 := Lib.hid (bb.out.trans (b2.mono bb.out.size))
  have WU := Lib.hid (W4.low hW bb.out.size)
  clear a1' hru b2 bb hW
  go_wp2_with fail
  go_ret2
  exact ⟨h4.A, h4.c, by rw [HR.out] <;> simp, by rw [HR.out]; have := WU.out.rcv; first | exact this | (unfold OwnA; rw [List.length_map]; exact this), B2.out⟩
def pdpR (p : Pg) (f arg fuel : Int) : List Int × Bool := ((panR p f arg fuel).1.pan.map pdep, (panR p f arg fuel).2)
set_option maxRecDepth 100000 in
set_option maxHeartbeats 4000000 in
theorem pdpS_any (lo n c : Nat) (A : Option Addr) (p : Pg) (f arg fuel : Int) (hn : n ≤ 9223372036854775807) (hl : p.length = n) (hsm : Small p 9223372036854775807) (w : World) (ho : OwnP w lo (.slice A n c) p) :
  Calls Try.prog 38 #[.agg #[.slice A n c], .int .i64 f, .int .i64 arg, .int .i64 fuel] w (IntsR (pdpR p f arg fuel) w) := by
 have hq := Lib.hid (fun W (h : Below w.heap.size w W) => l2Ask_any w.heap.size A n c p f arg fuel hn hl hsm W (ho.rd.below h) h.size)
 have HAL := Lib.hid (fun o1 : Obj => ((Below.refl w.heap.size w).alloc (Nat.le_refl _) o1))
 cases ha : asks p f arg fuel with
 | false =>
  have hr := Lib.hid (show pdpR p f arg fuel = ([], false) by unfold pdpR panR; rw [ha]; rfl)
  rw [ha] at hq
  clear ha ho hsm
  go_enter Try.func38, Try.ntmps38
  go_wp2_with fail
  refine (hq.out _ (HAL.out _)).mono ?_
  rintro e w1 ⟨rfl, b1⟩
  have B := Lib.hid ((HAL.out (.cells #[.slice A n c] 31)).trans (b1.mono (HAL.out (.cells #[.slice A n c] 31)).size))
  clear b1
  go_wp2_with fail
  go_ret2
  exact ⟨_, _, by rw [hr.out] <;> rfl, by rw [hr.out]; exact App.empty_own (heap1_0 w1 _) B.out.size, B.out.alloc B.out.size _⟩
 | true =>
  obtain ⟨g1, g2, g3, g4, g5, g6⟩ := start_wf (n := n) ha
  have hn6 : p.length ≤ 6 ∧ Small p 8 := okProg_small g1
  have hru := Lib.hid (fun W (h : Below w.heap.size w W) => l4Of_any lo n c A p f arg fuel hl (hn6.2.mono (by omega)) (by omega) ha W (ho.below h))
  have hrr : panR p f arg fuel = (mds (run p fuel f arg).trace, true) := by unfold panR; rw [ha]; rfl
  have hr : pdpR p f arg fuel = ((mds (run p fuel f arg).trace).pan.map pdep, true) := by unfold pdpR; rw [hrr]
  rw [ha] at hq
  clear ha ho hsm g1 g2 g3 g4 g5 g6 hn6 hrr
  generalize mds (run p fuel f arg).trace = s at *
  have HR := Lib.hid hr
  clear hr
  go_enter Try.func38, Try.ntmps38
  go_wp2_with fail
  refine (hq.out _ (HAL.out _)).mono ?_
  rintro e w1 ⟨rfl, b1⟩
  have a1' : w1.cell? ⟨w.heap.size, 0, none⟩ = some (.slice A n c) := (Blk.below (B := w.heap.size + 1) (heap1_0 w (.cells #[.slice A n c] 31)) (by simpa using b1) (by omega)).cells 0
  have bb := Lib.hid ((HAL.out (.cells #[.slice A n c] 31)).trans (b1.mono (HAL.out (.cells #[.slice A n c] 31)).size))
  clear b1 hq
  go_wp2_with fail
  refine (hru.out _ bb.out).mono ?_
  rintro e w2 ⟨h0, h1, h2, h3, h4, h5, h6, rfl, hW, b2⟩
  have hf := fun u => rec_field2 (.slice h0.A s.stk.length h0.c) (.slice h1.A s.pan.length h1.c) (.slice h2.A s.pan.length h2.c) (.slice h3.A s.pan.length h3.c) (.slice h4.A s.rcv.length h4.c) (.slice h5.A s.pan.length h5.c) (.slice h6.A s.pan.length h6.c) u
  have B2 := Lib.hid (bb.out.trans (b2.mono bb.out.size))
  have WU := Lib.hid (W4.low hW bb.out.size)
  clear a1' hru b2 bb hW
  go_wp2_with fail
  go_ret2
  exact ⟨h2.A, h2.c, by rw [HR.out] <;> simp, by rw [HR.out]; have := WU.out.dep; first | exact this | (unfold OwnI; rw [List.length_map]; exact this), B2.out⟩
end Go.Proofs.Ytgcjlkdahlfjlaa.Po
-- squeezed
