/- FnExactPutStep returns true for every program, all integers and every step, and leaves the program as it was; no condition. (Written by wip/tools/genlaws.py.) -/
import Derived.Test.YtgfjdfmmkomolaaRows
import Derived.Test.YtgfjdfmmkomolaaLawS
import Derived.Test.YtgfjdfmmkomolaaPutS2
import Derived.Deep.RegionHeld3
import Derived.Deep.DeepCutAuto
namespace Go.Proofs.Ytgfjdfmmkomolaa.fnExactPutStep
set_option linter.unusedVariables false
set_option linter.unusedSimpArgs false
open Go.ChangeShapes Go.WideShapes Go.ChangeAt Go.RowKit
open PL Mem To Sz EqP OpenP MarkP Res DeferP LawP LawS DropI PutI PutS2

theorem own : ownKnob Try.prog.godebug = none := by kernel_rfl
theorem cnt_small {p : Pg} (h : ¬ szP 1048576 p < 0) : cnt p ≤ 1048576 := by
  have ht : tot p ≤ 1048576 := by
    unfold szP szR at h
    split at h <;> omega
  exact Nat.le_trans (tot_cnt p) ht
set_option maxHeartbeats 4000000 in
set_option maxRecDepth 100000 in
theorem walk (A : Option Addr) (c : Nat) (p : Pg) (f k' : Int) (s : Tr) (hn : p.length ≤ maxLen) (hsm : Small p maxLen) (w : World) (hr : RdP w w.heap.size A p) :
    Calls Try.prog 3 #[.agg #[.slice A p.length c], .int .i64 f, .int .i64 k', .agg #[.int .i64 s.1, .int .i64 s.2.1, .int .i64 s.2.2]] w fun e w' => e = .returned (.bool true) ∧ Below w.heap.size w w' := by
  unfold maxLen at hn hsm
  have hR := Lib.hid hr
  clear hr
  obtain ⟨n, hL⟩ : ∃ n, p.length = n := ⟨_, rfl⟩
  have hz := Lib.hid (fun W h hB => szProgram_any w.heap.size A n c p 1048576 (by omega) (by omega) (by omega) hL hsm W h hB)
  have h2 : ∀ o o' : Obj, Below w.heap.size w ((w.alloc o).alloc o') := fun o o' => ((Below.refl _ _).alloc (Nat.le_refl _) _).alloc (by simp) _
  have h3 : ∀ o o' : Obj, ((w.alloc o).alloc o').heap.size = w.heap.size + 2 := fun o o' => by simp
  have H2 := Lib.hid h2
  have H3 := Lib.hid h3
  clear h2 h3
  by_cases hneg : szP 1048576 p < 0
  · have hs := Lib.hid (szR_neg _ _ hneg).1
    have hL' := Lib.hid hL
    rw [hL]
    clear hL hneg
    go_enter Try.func3, Try.ntmps3
    go_wp2_with fail
    refine (hz.out _ (hR.out.below (H2.out _ _)) (H2.out _ _).size).mono ?_
    rintro e w1 ⟨rfl, b1⟩
    rw [szP, hs.out]
    go_wp2_with fail
    go_ret
    exact ⟨rfl, (H2.out _ _).trans (b1.mono (H2.out _ _).size)⟩
  · obtain ⟨hs1, hs2⟩ := szP_small hneg
    have hcp := cnt_small hneg
    rw [hL] at hs1 hn
    have hT := Lib.hid (fun W h hB => toProgram_any w.heap.size A n c p (by omega) hL (hs2.mono (by omega)) W h hB)
    have hEp := Lib.hid (fun B A' A'' c' c'' W h h' hB => eqProgram_same B A' A'' n c' c'' p (by omega) hL (hs2.mono (by omega)) W h h' hB)
    have hMp := Lib.hid (fun lo hi c' A' W h h' => markProgram_any lo hi n c' A' p 1 (by omega) hL (hs2.mono (by omega)) (by omega) (by omega) W h h')
    have hS := fun lo c' A' W h => specPut_any lo n c' A' p f k' s (by omega) hL (hs2.mono (by omega)) W h
    have hI := fun lo c' A' W h => implPut_any lo n c' A' p f k' s (by omega) hL (hs2.mono (by omega)) W h
    have hft := put_fits p f k' s
    generalize putR p f k' s = r at hS hI hft
    obtain ⟨q, k0⟩ := r
    obtain ⟨hq6, hq9, hq54⟩ := fits_cnt hft
    dsimp only at hq6 hq9 hq54
    obtain ⟨m, hm⟩ : ∃ m, q.length = m := ⟨_, rfl⟩
    have hEq := Lib.hid (fun B A' A'' c' c'' W h h' hB => eqProgram_same B A' A'' m c' c'' q (by omega) hm (hq9.mono (by omega)) W h h' hB)
    have hMq := Lib.hid (fun lo hi c' A' W h h' => markProgram_any lo hi m c' A' q 1 (by omega) hm (hq9.mono (by omega)) (by omega) (by omega) W h h')
    have hHq := Lib.hid (fun c' A' W h => heldProgram_any m c' A' q 1 (by omega) hm (hq9.mono (by omega)) (by omega) (by omega) W h)
    have hS' : ∀ lo c' A' W, OwnP W lo (.slice A' n c') p → Calls Try.prog 15 #[.agg #[.slice A' n c'], .int .i64 f, .int .i64 k', .agg #[.int .i64 s.1, .int .i64 s.2.1, .int .i64 s.2.2]] W fun e w' => ∃ Aw cw, e = .returned (.tuple #[.agg #[.slice Aw m cw], .bool k0]) ∧ OwnP w' W.heap.size (.slice Aw m cw) q ∧ Below W.heap.size W w' :=
      fun lo c' A' W h => (hS lo c' A' W h).mono fun e w' h' => by obtain ⟨x, y, h1, h2, h3⟩ := h'; simp only [hm] at h1 h2; exact ⟨x, y, h1, h2, h3⟩
    have hI' : ∀ lo c' A' W, OwnP W lo (.slice A' n c') p → Calls Try.prog 18 #[.agg #[.slice A' n c'], .int .i64 f, .int .i64 k', .agg #[.int .i64 s.1, .int .i64 s.2.1, .int .i64 s.2.2]] W fun e w' => ∃ Aw cw, e = .returned (.tuple #[.agg #[.slice Aw m cw], .bool k0]) ∧ OwnP w' W.heap.size (.slice Aw m cw) q ∧ Below W.heap.size W w' :=
      fun lo c' A' W h => (hI lo c' A' W h).mono fun e w' h' => by obtain ⟨x, y, h1, h2, h3⟩ := h'; simp only [hm] at h1 h2; exact ⟨x, y, h1, h2, h3⟩
    have HS := Lib.hid hS'
    have HI := Lib.hid hI'
    unfold MarkedP at hMp hMq
    have hkp : ¬ (1 + 3 * (cnt p : Int)) < 0 := by omega
    have hkq : ¬ (1 + 3 * (cnt q : Int)) < 0 := by omega
    generalize 1 + 3 * (cnt p : Int) = kp at *
    generalize 1 + 3 * (cnt q : Int) = kq at *
    have hbb : (k0 != k0) = false := by simp
    have hL' := Lib.hid hL
    rw [hL]
    clear hL hs2 hsm hS hI hft hq6 hq9 hq54 hm hcp hS' hI' hs1 hn
    go_enter Try.func3, Try.ntmps3
    go_wp2_with fail
    refine (hz.out _ (hR.out.below (H2.out _ _)) (H2.out _ _).size).mono ?_
    rintro e w1 ⟨rfl, b1⟩
    have bb_w1 : Below w.heap.size w w1 := (H2.out _ _).trans (b1.mono (H2.out _ _).size)
    have a1 : Blk w1 w.heap.size 24 #[.slice A n c] := Blk.below (heap2_0 w _ _) b1 (by rw [H3.out]; omega)
    have e1 : Bs w s w1 := Blk.below (heap2_1 w _ _) b1 (by rw [H3.out]; omega)
    have s1 : w.heap.size + 2 ≤ w1.heap.size := by have := b1.size; rwa [H3.out] at this
    have XA := Lib.hid (And.intro bb_w1 (And.intro a1 (And.intro e1 s1)))
    generalize szP 1048576 p = z at *
    have hX_w1 := Lib.hid (fun (W : World) (b : Below w1.heap.size w1 W) => show W.cell? ⟨w.heap.size, 0, none⟩ = some (.slice A n c) ∧ W.cell? ⟨w.heap.size + 1, 0, none⟩ = some (.int .i64 s.1) ∧ W.cell? ⟨w.heap.size + 1, 1, none⟩ = some (.int .i64 s.2.1) ∧ W.cell? ⟨w.heap.size + 1, 2, none⟩ = some (.int .i64 s.2.2) from
      let f := Blk.below e1 b e1.lt; ⟨(a1.below b a1.lt).cells 0, f.cells 0, f.cells 1, f.cells 2⟩)
    have hT_w1 := Lib.hid (fun (W : World) (b : Below w1.heap.size w1 W) => (hT.out W (hR.out.below (bb_w1.trans (b.mono bb_w1.size))) (Nat.le_trans bb_w1.size b.size)).mono (fun e w' (h : ∃ g, e = Ending.returned (.agg #[.slice (some ⟨g, 0, none⟩) n n]) ∧ OwnP w' W.heap.size (.slice (some ⟨g, 0, none⟩) n n) p ∧ Below W.heap.size W w') =>
      show ∃ g, e = Ending.returned (.agg #[.slice (some ⟨g, 0, none⟩) n n]) ∧ OwnP w' w1.heap.size (.slice (some ⟨g, 0, none⟩) n n) p ∧ Below w1.heap.size w1 w' ∧ Below W.heap.size W w' from
      let ⟨g, he, ho, hb⟩ := h; ⟨g, he, ho.mono b.size, b.trans (hb.mono b.size), hb⟩))
    have hU_w1 := Lib.hid (fun (Y W : World) (y : Below Y.heap.size Y W) (b : Below w1.heap.size w1 W) => (toStep_any s.1 s.2.1 s.2.2 W).mono (fun e w' h => show e = Ending.returned (.agg #[.int .i64 s.1, .int .i64 s.2.1, .int .i64 s.2.2]) ∧ Below w1.heap.size w1 w' ∧ Below W.heap.size W w' ∧ Below Y.heap.size Y w' from ⟨h.1, b.trans (h.2.mono b.size), h.2, y.trans (h.2.mono y.size)⟩))
    have hP_w1 := Lib.hid (fun (Y W : World) (g : Nat) (o : OwnP Y w1.heap.size (.slice (some ⟨g, 0, none⟩) n n) p) (y : Below Y.heap.size Y W) (b : Below w1.heap.size w1 W) => (HS.out w1.heap.size n (some ⟨g, 0, none⟩) W (o.below y)).mono (fun e w' (h : ∃ Aw cw, e = Ending.returned (.tuple #[.agg #[.slice Aw m cw], .bool k0]) ∧ OwnP w' W.heap.size (.slice Aw m cw) q ∧ Below W.heap.size W w') =>
      show ∃ Aw cw, e = Ending.returned (.tuple #[.agg #[.slice Aw m cw], .bool k0]) ∧ OwnP w' W.heap.size (.slice Aw m cw) q ∧ Below w1.heap.size w1 w' ∧ Below W.heap.size W w' from
      let ⟨x, y', h1, h2, h3⟩ := h; ⟨x, y', h1, h2, b.trans (h3.mono b.size), h3⟩))
    clear a1 e1 s1 b1
    go_upto_region 5 with fail
    go_cut [10, 11] (fun s1' s2' wx => ∃ b L H Av cv, s1' = .pointer (some ⟨b, 0, none⟩) ∧ s2' = .bool k0 ∧ Mid w1 b L H (.slice Av m cv) q wx)
    case first =>
      have bD : Below w1.heap.size w1 w1.drew := (Below.refl _ _).drew
      obtain ⟨x0, x1, x2, x3⟩ := hX_w1.out w1 (Below.refl _ _)
      go_region_held3 (fun w' => w'.cell? ⟨w.heap.size, 0, none⟩ = some (.slice A n c) ∧ w'.cell? ⟨w.heap.size + 1, 0, none⟩ = some (.int .i64 s.1) ∧ w'.cell? ⟨w.heap.size + 1, 1, none⟩ = some (.int .i64 s.2.1) ∧ w'.cell? ⟨w.heap.size + 1, 2, none⟩ = some (.int .i64 s.2.2))
        (first | exact ⟨x0, x1, x2, x3⟩ | (refine hX_w1.out _ ?_; (first | assumption | exact Below.refl _ _ | exact Below.alloc (by assumption) (by exact Below.size (by assumption)) _ | exact Below.alloc (Below.refl _ _) (Nat.le_refl _) _ | exact Below.drew (Below.alloc (Below.refl _ _) (Nat.le_refl _) _) | exact Below.setCell (by assumption) (by first | exact Below.size (by assumption) | exact Nat.le_refl _) _ | exact Below.setCell (Below.alloc (by assumption) (by exact Below.size (by assumption)) _) (by first | exact Below.size (by assumption) | exact Nat.le_refl _) _)))
        (first | (go_at_call 16; refine (hT_w1.out _ ?_).mono ?_; (first | assumption | exact Below.refl _ _ | exact Below.alloc (by assumption) (by exact Below.size (by assumption)) _ | exact Below.alloc (Below.refl _ _) (Nat.le_refl _) _ | exact Below.drew (Below.alloc (Below.refl _ _) (Nat.le_refl _) _) | exact Below.setCell (by assumption) (by first | exact Below.size (by assumption) | exact Nat.le_refl _) _ | exact Below.setCell (Below.alloc (by assumption) (by exact Below.size (by assumption)) _) (by first | exact Below.size (by assumption) | exact Nat.le_refl _) _); rintro e wT ⟨gx, rfl, oT, bT, cT⟩; (try (have hbx := box_keepD cT; obtain ⟨zT, fT⟩ : wT.cell? ⟨w1.heap.size, 0, none⟩ = some (.slice none 0 0) ∧ wT.frozen? ⟨w1.heap.size, 0, none⟩ = false := hbx))) | (go_at_call 17; refine (hU_w1.out wT _ ?_ ?_).mono ?_; (first | assumption | exact Below.refl _ _ | exact Below.alloc (by assumption) (by exact Below.size (by assumption)) _ | exact Below.alloc (Below.refl _ _) (Nat.le_refl _) _ | exact Below.drew (Below.alloc (Below.refl _ _) (Nat.le_refl _) _) | exact Below.setCell (by assumption) (by first | exact Below.size (by assumption) | exact Nat.le_refl _) _ | exact Below.setCell (Below.alloc (by assumption) (by exact Below.size (by assumption)) _) (by first | exact Below.size (by assumption) | exact Nat.le_refl _) _); (first | assumption | exact Below.refl _ _ | exact Below.alloc (by assumption) (by exact Below.size (by assumption)) _ | exact Below.alloc (Below.refl _ _) (Nat.le_refl _) _ | exact Below.drew (Below.alloc (Below.refl _ _) (Nat.le_refl _) _) | exact Below.setCell (by assumption) (by first | exact Below.size (by assumption) | exact Nat.le_refl _) _ | exact Below.setCell (Below.alloc (by assumption) (by exact Below.size (by assumption)) _) (by first | exact Below.size (by assumption) | exact Nat.le_refl _) _); rintro e wU ⟨rfl, bU, cU, dU⟩; (try (have hbx := box_keep cU; obtain ⟨zU, fU⟩ := hbx)); (try (have hbx := box_more zT fT cU; obtain ⟨zU', fU'⟩ := hbx))) | (go_at_call 15; refine (hP_w1.out wT _ gx oT ?_ ?_).mono ?_; (first | assumption | exact Below.refl _ _ | exact Below.alloc (by assumption) (by exact Below.size (by assumption)) _ | exact Below.alloc (Below.refl _ _) (Nat.le_refl _) _ | exact Below.drew (Below.alloc (Below.refl _ _) (Nat.le_refl _) _) | exact Below.setCell (by assumption) (by first | exact Below.size (by assumption) | exact Nat.le_refl _) _ | exact Below.setCell (Below.alloc (by assumption) (by exact Below.size (by assumption)) _) (by first | exact Below.size (by assumption) | exact Nat.le_refl _) _); (first | assumption | exact Below.refl _ _ | exact Below.alloc (by assumption) (by exact Below.size (by assumption)) _ | exact Below.alloc (Below.refl _ _) (Nat.le_refl _) _ | exact Below.drew (Below.alloc (Below.refl _ _) (Nat.le_refl _) _) | exact Below.setCell (by assumption) (by first | exact Below.size (by assumption) | exact Nat.le_refl _) _ | exact Below.setCell (Below.alloc (by assumption) (by exact Below.size (by assumption)) _) (by first | exact Below.size (by assumption) | exact Nat.le_refl _) _); rintro e wS ⟨Av, cv, rfl, oS, bS, cS⟩; (try (have hbx := box_keep cS; obtain ⟨zS, fS⟩ := hbx)); (try (have hbx := box_more zU fU cS; obtain ⟨zS', fS'⟩ := hbx)); (try (have hbx := box_more zU' fU' cS; obtain ⟨zS', fS'⟩ := hbx))))
      all_goals
        go_wp2_with fail
        go_meet
        first
          | exact ⟨_, _, _, _, _, rfl, rfl, Mid.late bS oS bU.size cS.size⟩
          | exact ⟨_, _, _, _, _, rfl, rfl, Mid.early bU cS oS (Nat.le_refl _) cS.size⟩
          | exact ⟨_, _, _, _, _, rfl, rfl, Mid.early bT (cU.trans (cS.mono cU.size)) oS cU.size cS.size⟩
          | exact ⟨_, _, _, _, _, rfl, rfl, Mid.early (Below.refl _ _) (((undrew cT).trans (cU.mono (undrew cT).size)).trans (cS.mono (Nat.le_trans (undrew cT).size cU.size))) oS (Nat.le_trans (undrew cT).size cU.size) cS.size⟩
    case rest =>
      obtain ⟨bw, Lw, Hw, Aw, cw, rfl, rfl, M1⟩ := hcut
      have X1 := Lib.hid (M1.first XA.out.1 XA.out.2.1 XA.out.2.2.1 XA.out.2.2.2)
      clear M1 hT_w1 hU_w1 hP_w1 hX_w1 XA bb_w1
      obtain ⟨za, zw⟩ := X1.out.cells
      go_wp2_with fail
      clear za zw
      refine (hT.out _ (hR.out.below X1.out.below) X1.out.below.size).mono ?_
      rintro e w5' ⟨gy, rfl, o5, b5⟩
      have X5 := Lib.hid (X1.out.next b5)
      have O5 := Lib.hid (OwnH.of o5)
      have hb1 : bw < wc.heap.size := X1.out.ord.2.2.2.2
      have hH1 : Hw ≤ wc.heap.size := X1.out.ord.2.2.1
      have hl5 := b5.size
      clear o5 b5 X1
      go_upto_region 7 with fail
      obtain ⟨w6, hw6⟩ : ∃ w6, w5'.alloc (.cells #[.slice (some ⟨gy, 0, none⟩) n n] 30) = w6 := ⟨_, rfl⟩
      have b6 : Below w5'.heap.size w5' w6 := by rw [← hw6]; exact (Below.refl _ _).alloc (Nat.le_refl _) _
      have x6 : Blk w6 w5'.heap.size 30 #[.slice (some ⟨gy, 0, none⟩) n n] := by rw [← hw6]; exact heap1_0 _ _
      have X6 := Lib.hid (X5.out.next b6)
      have OX_w6 := Lib.hid (O5.out.below b6)
      have BX := Lib.hid x6
      have hl6 : w5'.heap.size < w6.heap.size := x6.lt
      rw [hw6]
      clear hw6 b6 O5 X5 x6
      have hX_w6 := Lib.hid (fun (W : World) (b : Below w6.heap.size w6 W) => show W.cell? ⟨w5'.heap.size, 0, none⟩ = some (.slice (some ⟨gy, 0, none⟩) n n) ∧ W.cell? ⟨w.heap.size + 1, 0, none⟩ = some (.int .i64 s.1) ∧ W.cell? ⟨w.heap.size + 1, 1, none⟩ = some (.int .i64 s.2.1) ∧ W.cell? ⟨w.heap.size + 1, 2, none⟩ = some (.int .i64 s.2.2) from
        let f := Blk.below X6.out.e b X6.out.e.lt; ⟨(BX.out.below b BX.out.lt).cells 0, f.cells 0, f.cells 1, f.cells 2⟩)
      have hU_w6 := Lib.hid (fun (Y W : World) (y : Below Y.heap.size Y W) (b : Below w6.heap.size w6 W) => (toStep_any s.1 s.2.1 s.2.2 W).mono (fun e w' h => show e = Ending.returned (.agg #[.int .i64 s.1, .int .i64 s.2.1, .int .i64 s.2.2]) ∧ Below w6.heap.size w6 w' ∧ Below W.heap.size W w' ∧ Below Y.heap.size Y w' from ⟨h.1, b.trans (h.2.mono b.size), h.2, y.trans (h.2.mono y.size)⟩))
      have hP_w6 := Lib.hid (fun (W : World) (b : Below w6.heap.size w6 W) => (HI.out _ n (some ⟨gy, 0, none⟩) W ((OX_w6.out.below (b.mono (by omega))).own)).mono (fun e w' (h : ∃ Aw cw, e = Ending.returned (.tuple #[.agg #[.slice Aw m cw], .bool k0]) ∧ OwnP w' W.heap.size (.slice Aw m cw) q ∧ Below W.heap.size W w') =>
        show ∃ Aw cw, e = Ending.returned (.tuple #[.agg #[.slice Aw m cw], .bool k0]) ∧ OwnP w' W.heap.size (.slice Aw m cw) q ∧ Below w6.heap.size w6 w' ∧ Below W.heap.size W w' from
        let ⟨x, y', h1, h2, h3⟩ := h; ⟨x, y', h1, h2, b.trans (h3.mono b.size), h3⟩))
      go_upto_region 7 with fail
      go_cut [13, 14] (fun s1' s2' wx => ∃ b L H Av cv, s1' = .pointer (some ⟨b, 0, none⟩) ∧ s2' = .bool k0 ∧ Mid w6 b L H (.slice Av m cv) q wx)
      case first =>
        have bD : Below w6.heap.size w6 w6.drew := (Below.refl _ _).drew
        obtain ⟨x0, x1, x2, x3⟩ := hX_w6.out w6 (Below.refl _ _)
        go_region_held3 (fun w' => w'.cell? ⟨w5'.heap.size, 0, none⟩ = some (.slice (some ⟨gy, 0, none⟩) n n) ∧ w'.cell? ⟨w.heap.size + 1, 0, none⟩ = some (.int .i64 s.1) ∧ w'.cell? ⟨w.heap.size + 1, 1, none⟩ = some (.int .i64 s.2.1) ∧ w'.cell? ⟨w.heap.size + 1, 2, none⟩ = some (.int .i64 s.2.2))
          (first | exact ⟨x0, x1, x2, x3⟩ | (refine hX_w6.out _ ?_; (first | assumption | exact Below.refl _ _ | exact Below.alloc (by assumption) (by exact Below.size (by assumption)) _ | exact Below.alloc (Below.refl _ _) (Nat.le_refl _) _ | exact Below.drew (Below.alloc (Below.refl _ _) (Nat.le_refl _) _) | exact Below.setCell (by assumption) (by first | exact Below.size (by assumption) | exact Nat.le_refl _) _ | exact Below.setCell (Below.alloc (by assumption) (by exact Below.size (by assumption)) _) (by first | exact Below.size (by assumption) | exact Nat.le_refl _) _)))
          (first | (go_at_call 17; refine (hU_w6.out w6 _ ?_ ?_).mono ?_; (first | assumption | exact Below.refl _ _ | exact Below.alloc (by assumption) (by exact Below.size (by assumption)) _ | exact Below.alloc (Below.refl _ _) (Nat.le_refl _) _ | exact Below.drew (Below.alloc (Below.refl _ _) (Nat.le_refl _) _) | exact Below.setCell (by assumption) (by first | exact Below.size (by assumption) | exact Nat.le_refl _) _ | exact Below.setCell (Below.alloc (by assumption) (by exact Below.size (by assumption)) _) (by first | exact Below.size (by assumption) | exact Nat.le_refl _) _); (first | assumption | exact Below.refl _ _ | exact Below.alloc (by assumption) (by exact Below.size (by assumption)) _ | exact Below.alloc (Below.refl _ _) (Nat.le_refl _) _ | exact Below.drew (Below.alloc (Below.refl _ _) (Nat.le_refl _) _) | exact Below.setCell (by assumption) (by first | exact Below.size (by assumption) | exact Nat.le_refl _) _ | exact Below.setCell (Below.alloc (by assumption) (by exact Below.size (by assumption)) _) (by first | exact Below.size (by assumption) | exact Nat.le_refl _) _); rintro e wU ⟨rfl, bU, cU, dU⟩; (try (have hbx := box_keepD cU; obtain ⟨zU, fU⟩ : wU.cell? ⟨w6.heap.size, 0, none⟩ = some (.slice none 0 0) ∧ wU.frozen? ⟨w6.heap.size, 0, none⟩ = false := hbx)); (try (have hbx := box_more zT fT cU; obtain ⟨zU', fU'⟩ := hbx))) | (go_at_call 18; refine (hP_w6.out _ ?_).mono ?_; (first | assumption | exact Below.refl _ _ | exact Below.alloc (by assumption) (by exact Below.size (by assumption)) _ | exact Below.alloc (Below.refl _ _) (Nat.le_refl _) _ | exact Below.drew (Below.alloc (Below.refl _ _) (Nat.le_refl _) _) | exact Below.setCell (by assumption) (by first | exact Below.size (by assumption) | exact Nat.le_refl _) _ | exact Below.setCell (Below.alloc (by assumption) (by exact Below.size (by assumption)) _) (by first | exact Below.size (by assumption) | exact Nat.le_refl _) _); rintro e wS ⟨Av, cv, rfl, oS, bS, cS⟩; (try (have hbx := box_keep cS; obtain ⟨zS, fS⟩ := hbx)); (try (have hbx := box_more zU fU cS; obtain ⟨zS', fS'⟩ := hbx))))
        all_goals
          go_wp2_with fail
          go_meet
          first
            | exact ⟨_, _, _, _, _, rfl, rfl, Mid.late bS oS bU.size cS.size⟩
            | exact ⟨_, _, _, _, _, rfl, rfl, Mid.early bU cS oS (Nat.le_refl _) cS.size⟩
            | exact ⟨_, _, _, _, _, rfl, rfl, Mid.early (Below.refl _ _) ((undrew cU).trans (cS.mono (undrew cU).size)) oS (undrew cU).size cS.size⟩
      case rest =>
        obtain ⟨bg, Lg, Hg, Ag, cg, rfl, rfl, M7⟩ := hcut
        have X8 := Lib.hid (X6.out.third BX.out OX_w6.out (by omega) M7)
        rename World => w8
        clear M7 hU_w6 hP_w6 hX_w6 X6 BX OX_w6 hl6 hl5 hb1 hH1
        generalize w5'.heap.size = Hx at *
        generalize wc.heap.size = Lx at *
        obtain ⟨za, zw, zx, zg⟩ := X8.out.cells
        go_wp2_with fail
        clear za zw zx zg
        refine (hEq.out w8.heap.size Ag Aw cg cw w8 X8.out.og.own.rd X8.out.ow.own.rd (Nat.le_refl _)).mono ?_
        rintro e w9 ⟨rfl, b9⟩
        have X9 := Lib.hid (X8.out.next b9)
        clear X8 b9
        have hX9 := Lib.hid (fun (V : World) (b : Below w9.heap.size w9 V) => (show V.cell? ⟨Hx, 0, none⟩ = some (.slice (some ⟨gy, 0, none⟩) n n) ∧ V.cell? ⟨w.heap.size, 0, none⟩ = some (.slice A n c) from ⟨(X9.out.next b).cells.2.2.1, (X9.out.next b).cells.1⟩))
        obtain ⟨za, zw, zx, zg⟩ := X9.out.cells
        go_wp2_with fail
        clear za zw zx zg
        obtain ⟨x1, x2⟩ := hX9.out w9 (Below.refl _ _)
        have hT9 := Lib.hid (fun (W : World) (b : Below w9.heap.size w9 W) => (hT.out W (hR.out.below (X9.out.next b).below) (X9.out.next b).below.size).mono (fun e w' (h : ∃ g, e = Ending.returned (.agg #[.slice (some ⟨g, 0, none⟩) n n]) ∧ OwnP w' W.heap.size (.slice (some ⟨g, 0, none⟩) n n) p ∧ Below W.heap.size W w') =>
          show ∃ g, e = Ending.returned (.agg #[.slice (some ⟨g, 0, none⟩) n n]) ∧ OwnP w' w9.heap.size (.slice (some ⟨g, 0, none⟩) n n) p ∧ Below w9.heap.size w9 w' from
          let ⟨g, he, ho, hb⟩ := h; ⟨g, he, ho.mono b.size, b.trans (hb.mono b.size)⟩))
        have hE9 := Lib.hid (fun (W : World) (g : Nat) (o : OwnP W w9.heap.size (.slice (some ⟨g, 0, none⟩) n n) p) (b : Below w9.heap.size w9 W) => (hEp.out W.heap.size (some ⟨gy, 0, none⟩) (some ⟨g, 0, none⟩) n n W (X9.out.next b).ox.own.rd o.rd (Nat.le_refl _)).mono (fun e w' h => show e = Ending.returned (.bool true) ∧ Below w9.heap.size w9 w' from ⟨h.1, b.trans (h.2.mono b.size)⟩))
        have bD : Below w9.heap.size w9 w9.drew := (Below.refl _ _).drew
        go_region_held3 (fun V => V.cell? ⟨Hx, 0, none⟩ = some (.slice (some ⟨gy, 0, none⟩) n n) ∧ V.cell? ⟨w.heap.size, 0, none⟩ = some (.slice A n c))
          (first | exact ⟨x1, x2⟩ | (refine hX9.out _ ?_; assumption))
          (first | (go_at_call 16; refine (hT9.out _ ?_).mono ?_; assumption; rintro e wT ⟨gz, rfl, oT, bT⟩) | (go_at_call 19; refine (hE9.out _ gz oT ?_).mono ?_; assumption; rintro e w10 ⟨rfl, b10⟩))
        have X10 := Lib.hid (X9.out.next b10)
        clear b10 oT bT bD x1 x2 hE9 hT9 hX9 X9
        obtain ⟨za, zw, zx, zg⟩ := X10.out.cells
        go_wp2_with fail
        clear za zw zx zg
        refine (hMp.out Lx Hx n (some ⟨gy, 0, none⟩) w10 (by have := X10.out.ord; omega) X10.out.ox).mono ?_
        rintro e w11 ⟨rfl, o11, c11⟩
        have X11 := Lib.hid (X10.out.markX c11 o11)
        clear X10 o11 c11
        obtain ⟨za, zw, zx, zg⟩ := X11.out.cells
        go_wp2_with fail
        clear za zw zx zg
        refine (hEq.out w11.heap.size Ag Aw cg cw w11 X11.out.og.own.rd X11.out.ow.own.rd (Nat.le_refl _)).mono ?_
        rintro e w12 ⟨rfl, b12⟩
        have X12 := Lib.hid (X11.out.next b12)
        clear X11 b12
        obtain ⟨za, zw, zx, zg⟩ := X12.out.cells
        go_wp2_with fail
        clear za zw zx zg
        refine (hMq.out Lg Hg cg Ag w12 (by have := X12.out.ord; omega) X12.out.og).mono ?_
        rintro e w13 ⟨rfl, o13, c13⟩
        have X13 := Lib.hid (X12.out.markG c13 o13)
        clear X12 o13 c13
        obtain ⟨za, zw, zx, zg⟩ := X13.out.cells
        go_wp2_with fail
        clear za zw zx zg
        refine (hHq.out cg Ag w13 X13.out.og.own.rd).mono ?_
        rintro e w14 ⟨rfl, b14⟩
        have X14 := Lib.hid (X13.out.next b14)
        clear X13 b14
        have bb_w14 := X14.out.below
        have hX_w14 := Lib.hid (fun (W : World) (b : Below w14.heap.size w14 W) => show W.cell? ⟨w.heap.size, 0, none⟩ = some (.slice A n c) ∧ W.cell? ⟨w.heap.size + 1, 0, none⟩ = some (.int .i64 s.1) ∧ W.cell? ⟨w.heap.size + 1, 1, none⟩ = some (.int .i64 s.2.1) ∧ W.cell? ⟨w.heap.size + 1, 2, none⟩ = some (.int .i64 s.2.2) from
          let f := X14.out.next b; ⟨f.a.cells 0, f.e.cells 0, f.e.cells 1, f.e.cells 2⟩)
        have hT_w14 := Lib.hid (fun (W : World) (b : Below w14.heap.size w14 W) => (hT.out W (hR.out.below (bb_w14.trans (b.mono bb_w14.size))) (Nat.le_trans bb_w14.size b.size)).mono (fun e w' (h : ∃ g, e = Ending.returned (.agg #[.slice (some ⟨g, 0, none⟩) n n]) ∧ OwnP w' W.heap.size (.slice (some ⟨g, 0, none⟩) n n) p ∧ Below W.heap.size W w') =>
          show ∃ g, e = Ending.returned (.agg #[.slice (some ⟨g, 0, none⟩) n n]) ∧ OwnP w' w14.heap.size (.slice (some ⟨g, 0, none⟩) n n) p ∧ Below w14.heap.size w14 w' ∧ Below W.heap.size W w' from
          let ⟨g, he, ho, hb⟩ := h; ⟨g, he, ho.mono b.size, b.trans (hb.mono b.size), hb⟩))
        have hU_w14 := Lib.hid (fun (Y W : World) (y : Below Y.heap.size Y W) (b : Below w14.heap.size w14 W) => (toStep_any s.1 s.2.1 s.2.2 W).mono (fun e w' h => show e = Ending.returned (.agg #[.int .i64 s.1, .int .i64 s.2.1, .int .i64 s.2.2]) ∧ Below w14.heap.size w14 w' ∧ Below W.heap.size W w' ∧ Below Y.heap.size Y w' from ⟨h.1, b.trans (h.2.mono b.size), h.2, y.trans (h.2.mono y.size)⟩))
        have hP_w14 := Lib.hid (fun (Y W : World) (g : Nat) (o : OwnP Y w14.heap.size (.slice (some ⟨g, 0, none⟩) n n) p) (y : Below Y.heap.size Y W) (b : Below w14.heap.size w14 W) => (HI.out w14.heap.size n (some ⟨g, 0, none⟩) W (o.below y)).mono (fun e w' (h : ∃ Aw cw, e = Ending.returned (.tuple #[.agg #[.slice Aw m cw], .bool k0]) ∧ OwnP w' W.heap.size (.slice Aw m cw) q ∧ Below W.heap.size W w') =>
          show ∃ Aw cw, e = Ending.returned (.tuple #[.agg #[.slice Aw m cw], .bool k0]) ∧ OwnP w' W.heap.size (.slice Aw m cw) q ∧ Below w14.heap.size w14 w' ∧ Below W.heap.size W w' from
          let ⟨x, y', h1, h2, h3⟩ := h; ⟨x, y', h1, h2, b.trans (h3.mono b.size), h3⟩))
        go_upto_region 24 with fail
        go_cut [18, 19] (fun s1' s2' wx => ∃ b L H Av cv, s1' = .pointer (some ⟨b, 0, none⟩) ∧ s2' = .bool k0 ∧ Mid w14 b L H (.slice Av m cv) q wx)
        case first =>
          have bD : Below w14.heap.size w14 w14.drew := (Below.refl _ _).drew
          obtain ⟨x0, x1, x2, x3⟩ := hX_w14.out w14 (Below.refl _ _)
          go_region_held3 (fun w' => w'.cell? ⟨w.heap.size, 0, none⟩ = some (.slice A n c) ∧ w'.cell? ⟨w.heap.size + 1, 0, none⟩ = some (.int .i64 s.1) ∧ w'.cell? ⟨w.heap.size + 1, 1, none⟩ = some (.int .i64 s.2.1) ∧ w'.cell? ⟨w.heap.size + 1, 2, none⟩ = some (.int .i64 s.2.2))
            (first | exact ⟨x0, x1, x2, x3⟩ | (refine hX_w14.out _ ?_; (first | assumption | exact Below.refl _ _ | exact Below.alloc (by assumption) (by exact Below.size (by assumption)) _ | exact Below.alloc (Below.refl _ _) (Nat.le_refl _) _ | exact Below.drew (Below.alloc (Below.refl _ _) (Nat.le_refl _) _) | exact Below.setCell (by assumption) (by first | exact Below.size (by assumption) | exact Nat.le_refl _) _ | exact Below.setCell (Below.alloc (by assumption) (by exact Below.size (by assumption)) _) (by first | exact Below.size (by assumption) | exact Nat.le_refl _) _)))
            (first | (go_at_call 16; refine (hT_w14.out _ ?_).mono ?_; (first | assumption | exact Below.refl _ _ | exact Below.alloc (by assumption) (by exact Below.size (by assumption)) _ | exact Below.alloc (Below.refl _ _) (Nat.le_refl _) _ | exact Below.drew (Below.alloc (Below.refl _ _) (Nat.le_refl _) _) | exact Below.setCell (by assumption) (by first | exact Below.size (by assumption) | exact Nat.le_refl _) _ | exact Below.setCell (Below.alloc (by assumption) (by exact Below.size (by assumption)) _) (by first | exact Below.size (by assumption) | exact Nat.le_refl _) _); rintro e wT ⟨gx, rfl, oT, bT, cT⟩; (try (have hbx := box_keepD cT; obtain ⟨zT, fT⟩ : wT.cell? ⟨w14.heap.size, 0, none⟩ = some (.slice none 0 0) ∧ wT.frozen? ⟨w14.heap.size, 0, none⟩ = false := hbx))) | (go_at_call 17; refine (hU_w14.out wT _ ?_ ?_).mono ?_; (first | assumption | exact Below.refl _ _ | exact Below.alloc (by assumption) (by exact Below.size (by assumption)) _ | exact Below.alloc (Below.refl _ _) (Nat.le_refl _) _ | exact Below.drew (Below.alloc (Below.refl _ _) (Nat.le_refl _) _) | exact Below.setCell (by assumption) (by first | exact Below.size (by assumption) | exact Nat.le_refl _) _ | exact Below.setCell (Below.alloc (by assumption) (by exact Below.size (by assumption)) _) (by first | exact Below.size (by assumption) | exact Nat.le_refl _) _); (first | assumption | exact Below.refl _ _ | exact Below.alloc (by assumption) (by exact Below.size (by assumption)) _ | exact Below.alloc (Below.refl _ _) (Nat.le_refl _) _ | exact Below.drew (Below.alloc (Below.refl _ _) (Nat.le_refl _) _) | exact Below.setCell (by assumption) (by first | exact Below.size (by assumption) | exact Nat.le_refl _) _ | exact Below.setCell (Below.alloc (by assumption) (by exact Below.size (by assumption)) _) (by first | exact Below.size (by assumption) | exact Nat.le_refl _) _); rintro e wU ⟨rfl, bU, cU, dU⟩; (try (have hbx := box_keep cU; obtain ⟨zU, fU⟩ := hbx)); (try (have hbx := box_more zT fT cU; obtain ⟨zU', fU'⟩ := hbx))) | (go_at_call 18; refine (hP_w14.out wT _ gx oT ?_ ?_).mono ?_; (first | assumption | exact Below.refl _ _ | exact Below.alloc (by assumption) (by exact Below.size (by assumption)) _ | exact Below.alloc (Below.refl _ _) (Nat.le_refl _) _ | exact Below.drew (Below.alloc (Below.refl _ _) (Nat.le_refl _) _) | exact Below.setCell (by assumption) (by first | exact Below.size (by assumption) | exact Nat.le_refl _) _ | exact Below.setCell (Below.alloc (by assumption) (by exact Below.size (by assumption)) _) (by first | exact Below.size (by assumption) | exact Nat.le_refl _) _); (first | assumption | exact Below.refl _ _ | exact Below.alloc (by assumption) (by exact Below.size (by assumption)) _ | exact Below.alloc (Below.refl _ _) (Nat.le_refl _) _ | exact Below.drew (Below.alloc (Below.refl _ _) (Nat.le_refl _) _) | exact Below.setCell (by assumption) (by first | exact Below.size (by assumption) | exact Nat.le_refl _) _ | exact Below.setCell (Below.alloc (by assumption) (by exact Below.size (by assumption)) _) (by first | exact Below.size (by assumption) | exact Nat.le_refl _) _); rintro e wS ⟨Av, cv, rfl, oS, bS, cS⟩; (try (have hbx := box_keep cS; obtain ⟨zS, fS⟩ := hbx)); (try (have hbx := box_more zU fU cS; obtain ⟨zS', fS'⟩ := hbx)); (try (have hbx := box_more zU' fU' cS; obtain ⟨zS', fS'⟩ := hbx))))
          all_goals
            go_wp2_with fail
            go_meet
            first
              | exact ⟨_, _, _, _, _, rfl, rfl, Mid.late bS oS bU.size cS.size⟩
              | exact ⟨_, _, _, _, _, rfl, rfl, Mid.early bU cS oS (Nat.le_refl _) cS.size⟩
              | exact ⟨_, _, _, _, _, rfl, rfl, Mid.early bT (cU.trans (cS.mono cU.size)) oS cU.size cS.size⟩
              | exact ⟨_, _, _, _, _, rfl, rfl, Mid.early (Below.refl _ _) (((undrew cT).trans (cU.mono (undrew cT).size)).trans (cS.mono (Nat.le_trans (undrew cT).size cU.size))) oS (Nat.le_trans (undrew cT).size cU.size) cS.size⟩
        case rest =>
          obtain ⟨bh, Lh, Hh, Ah, ch, rfl, rfl, Mh⟩ := hcut
          rename World => w17
          have X17 := Lib.hid (X14.out.next Mh.below)
          have O17 := Lib.hid Mh.own
          have zh : w17.cell? ⟨bh, 0, none⟩ = some (.slice Ah m ch) := Mh.box.cells 0
          clear Mh hT_w14 hU_w14 hP_w14 hX_w14 X14 bb_w14
          obtain ⟨za, zw, zx, zg⟩ := X17.out.cells
          go_wp2_with fail
          clear za zw zx zg zh
          refine (hEq.out w17.heap.size Ah Aw ch cw w17 O17.out.own.rd X17.out.ow.own.rd (Nat.le_refl _)).mono ?_
          rintro e w18 ⟨rfl, b18⟩
          have X18 := Lib.hid (X17.out.next b18)
          clear X17 b18 O17
          obtain ⟨za, zw, zx, zg⟩ := X18.out.cells
          go_wp2_with fail
          clear za zw zx zg
          refine (hHq.out cg Ag w18 X18.out.og.own.rd).mono ?_
          rintro e w19 ⟨rfl, b19⟩
          have X19 := Lib.hid (X18.out.next b19)
          clear X18 b19
          go_wp2_with fail
          go_ret
          exact ⟨rfl, X19.out.below⟩
/-! ### The row's step. -/
set_option maxRecDepth 100000 in
theorem lifted (os : Os) (started : os.Started) (H : Type) (enc : TypeId × Value → H) :
    ReturnsInHanded {} Try.checked os 3 .any (Rows.fnExactPutStepSpec.pre6 enc Try.prog Try.f3 Rows.fnExactPutStepRow.domain false) (Rows.fnExactPutStepSpec.post enc Try.prog Try.f3 false true false false) := by
  refine returnsInHanded_of_change (C := Try.checked) own started (by kernel_rfl) Try.func3
    (ChangeSpec.witness6 (enc := enc) (C := Try.checked) false ⟨#[], #[.agg #[.slice none 0 0], .int .i64 0, .int .i64 0, .agg #[.int .i64 0, .int .i64 0, .int .i64 0]], []⟩ 8 (by kernel_rfl) (by kernel_rfl) (by kernel_rfl) (by kernel_rfl)) ?_
  intro W base args ds gs before hval0 hW hcnd _
  have hval : ∀ (j : Nat) t v, Try.f3.params[j]? = some t → args[j]? = some v → Value.okWide Try.prog W .any base t v := hval0
  have hW' := hW
  obtain ⟨p, q, hA0, hV, rfl, hfz, hnd⟩ := hW
  have hA : DataW.TrodAll enc Try.prog W 0 (fun _ => true) true Try.f3.params.toList args.toList ds p := hA0
  rw [Try.params3] at hA hval
  obtain ⟨v0, vs0, d0, ds0, p0, q0, hargs, rfl, rfl, h0, rest0⟩ := trodAll_cons hA
  obtain ⟨v1, vs1, d1, ds1, p1, q1, rfl, rfl, rfl, h1, rest1⟩ := trodAll_cons rest0
  obtain ⟨v2, vs2, d2, ds2, p2, q2, rfl, rfl, rfl, h2, rest2⟩ := trodAll_cons rest1
  obtain ⟨v3, vs3, d3, ds3, p3, q3, rfl, rfl, rfl, h3, rest3⟩ := trodAll_cons rest2
  obtain ⟨rfl, rfl, rfl⟩ := trodAll_nil rest3
  obtain rfl : args = #[v0, v1, v2, v3] := by cases args; simp_all
  obtain ⟨rfl, rfl⟩ := trodVars_none hV
  obtain ⟨A0, c0, P0, rfl, n0, r0, f0, s0⟩ := open_prog (hval 0 24 v0 rfl rfl) h0
  obtain ⟨z1, rfl, f1⟩ := open_int_fit (hval 1 3 v1 rfl rfl) h1
  obtain ⟨z2, rfl, f2⟩ := open_int_fit (hval 2 3 v2 rfl rfl) h2
  obtain ⟨k3, a3, b3, rfl, f3⟩ := open_step (hval 3 26 v3 rfl rfl) h3
  have lt0 : ∀ x ∈ p0, x.block < W.heap.size := by obtain ⟨m, hm⟩ := h0; exact DataW.trod_lt m _ _ _ hm
  have lt1 : ∀ x ∈ p1, x.block < W.heap.size := by obtain ⟨m, hm⟩ := h1; exact DataW.trod_lt m _ _ _ hm
  have lt2 : ∀ x ∈ p2, x.block < W.heap.size := by obtain ⟨m, hm⟩ := h2; exact DataW.trod_lt m _ _ _ hm
  have lt3 : ∀ x ∈ p3, x.block < W.heap.size := by obtain ⟨m, hm⟩ := h3; exact DataW.trod_lt m _ _ _ hm
  clear hA0 hval0
  refine (walk A0 c0 P0 z1 z2 (k3, a3, b3) n0 s0 W r0).mono fun e W' ⟨he, hg⟩ => ?_
  subst he
  exact ⟨_, rfl, _, _, _, [], _, [], hW', trodAll_mk1 (shut_bool Try.underlying4 _), (trodAll_cons_mk (Below.trod laidOut (by kernel_rfl) (of_decide_eq_true (by kernel_rfl)) h0 hg lt0) (trodAll_cons_mk (Below.trod laidOut (by kernel_rfl) (of_decide_eq_true (by kernel_rfl)) h1 hg lt1) (trodAll_cons_mk (Below.trod laidOut (by kernel_rfl) (of_decide_eq_true (by kernel_rfl)) h2 hg lt2) (trodAll_cons_mk (Below.trod laidOut (by kernel_rfl) (of_decide_eq_true (by kernel_rfl)) h3 hg lt3) trodAll_mk0)))), rfl, hg.frame _, fun h => by cases h⟩

theorem over : Rows.fnExactPutStepRow.holds Try.pinned (OpenSpec.ofChange Rows.fnExactPutStepSpec) :=
  OpenClaim.holds_of_wide 3 Try.f3 rfl rfl rfl rfl rfl rfl rfl ⟨rfl, rfl, rfl, rfl, rfl⟩ rfl rfl rfl rfl rfl (by kernel_rfl) Try.func3 (by kernel_rfl)
    (of_decide_eq_true (by kernel_rfl)) (by unfold Func.isWrapper; first | (rw [if_pos (by decide +kernel)]; kernel_rfl) | (rw [if_neg (by decide +kernel)]; exact ⟨rfl, rfl⟩))
    (fun os started H enc _ => lifted os started H enc)

/-- The statement. -/
theorem proved : Rows.FnExactPutStepSaid :=
  over
#print axioms proved

end Go.Proofs.Ytgfjdfmmkomolaa.fnExactPutStep
