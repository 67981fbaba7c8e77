/- The model's OpenPanics. (Written by wip/tools/genpn.py.) -/
import Derived.Test.YtgcjlkdahlfjlaaPo
import Derived.Test.YtgcjlkdahlfjlaaM2
namespace Go.Proofs.Ytgcjlkdahlfjlaa.Pn
set_option linter.unusedVariables false
set_option linter.unusedSimpArgs false
open Go.ChangeShapes Go.WideShapes Go.ChangeAt Go.RowKit
open PL Mem Srun Sst Ssim Smk To OwnS AskP RunF Res Swhole Sout IntsP RowA LawI LawA LawN PMem Psf Pw Px Py Pr Pz Pt Po

/-- How many of these panics are open. -/
def opens (l : List PF) : Nat := (l.filter (fun x => x.fate == 0)).length
theorem opens_take {l : List PF} {j : Nat} {x : PF} (h : l[j]? = some x) : opens (l.take (j + 1)) = if x.fate = 0 then opens (l.take j) + 1 else opens (l.take j) := by
 rw [List.take_add_one, h]
 unfold opens
 rw [Option.toList_some, List.filter_append, List.length_append]
 split
 ·rename_i h4
  simp [h4]
 ·rename_i h4
  simp [h4]
theorem opens_len (l : List PF) : opens l ≤ l.length := List.length_filter_le _ _
def opnR (p : Pg) (f arg fuel : Int) : Int × Bool := (((opens (panR p f arg fuel).1.pan : Nat) : Int), (panR p f arg fuel).2)
set_option maxRecDepth 100000 in
set_option maxHeartbeats 4000000 in
theorem opnS_any (lo n c : Nat) (A : Option Addr) (p : Pg) (f arg fuel : Int) (hn : n ≤ 9223372036854775807) (hl : p.length = n) (hsm : Small p 9223372036854775807) (w : World) (ho : OwnP w lo (.slice A n c) p) :
  Calls Try.prog 40 #[.agg #[.slice A n c], .int .i64 f, .int .i64 arg, .int .i64 fuel] w (NumR (opnR p f arg fuel) w) := by
 have hq := Lib.hid (fun W (h : Below w.heap.size w W) => l2Ask_any w.heap.size A n c p f arg fuel hn hl hsm W (ho.rd.below h) h.size)
 have HAL := Lib.hid (fun o1 : Obj => ((Below.refl w.heap.size w).alloc (Nat.le_refl _) o1))
 have hlen := (panR_lens p f arg fuel).pan
 cases ha : asks p f arg fuel with
 | false =>
  have hr := Lib.hid (show opnR p f arg fuel = (0, false) by unfold opnR panR; rw [ha]; rfl)
  rw [ha] at hq
  clear ha ho hsm
  go_enter Try.func40, Try.ntmps40
  go_wp2_with fail
  refine (hq.out _ (HAL.out _)).mono ?_
  rintro e w1 ⟨rfl, b1⟩
  have B := Lib.hid ((HAL.out (.cells #[.slice A n c] 31)).trans (b1.mono (HAL.out (.cells #[.slice A n c] 31)).size))
  clear b1
  go_wp2_with fail
  go_ret2
  exact ⟨by rw [hr.out] <;> rfl, B.out⟩
 | true =>
  obtain ⟨g1, g2, g3, g4, g5, g6⟩ := start_wf (n := n) ha
  have hn6 : p.length ≤ 6 ∧ Small p 8 := okProg_small g1
  have hru := Lib.hid (fun W (h : Below w.heap.size w W) => l4Of_any lo n c A p f arg fuel hl (hn6.2.mono (by omega)) (by omega) ha W (ho.below h))
  have hrr : panR p f arg fuel = (mds (run p fuel f arg).trace, true) := by unfold panR; rw [ha]; rfl
  have hr : opnR p f arg fuel = (((opens (mds (run p fuel f arg).trace).pan : Nat) : Int), true) := by unfold opnR; rw [hrr]
  rw [hrr] at hlen
  rw [ha] at hq
  clear ha ho hsm g1 g2 g3 g4 g5 g6 hn6 hrr
  generalize mds (run p fuel f arg).trace = s at *
  dsimp only at hlen
  obtain ⟨N, hN⟩ : ∃ N, s.pan.length = N := ⟨_, rfl⟩
  have HN := Lib.hid hN
  rw [hN] at hlen
  have HR := Lib.hid hr
  have HNX := Lib.hid (fun (j : Nat) (x : PF) (h : s.pan[j]? = some x) => opens_take h)
  have HLE := Lib.hid (fun (j : Nat) => opens_len (s.pan.take j))
  have HFULL := Lib.hid (show opens (s.pan.take N) = opens s.pan by rw [← hN, List.take_length])
  clear hr
  go_enter Try.func40, Try.ntmps40
  go_wp2_with fail
  refine (hq.out _ (HAL.out _)).mono ?_
  rintro e w1 ⟨rfl, b1⟩
  have a1' : w1.cell? ⟨w.heap.size, 0, none⟩ = some (.slice A n c) := (Blk.below (B := w.heap.size + 1) (heap1_0 w (.cells #[.slice A n c] 31)) (by simpa using b1) (by omega)).cells 0
  have bb := Lib.hid ((HAL.out (.cells #[.slice A n c] 31)).trans (b1.mono (HAL.out (.cells #[.slice A n c] 31)).size))
  clear b1 hq
  go_wp2_with fail
  refine (hru.out _ bb.out).mono ?_
  rintro e w2 ⟨h0, h1, h2, h3, h4, h5, h6, rfl, hW, b2⟩
  obtain ⟨A1, c1⟩ := h1
  have B2 := Lib.hid (bb.out.trans (b2.mono bb.out.size))
  have RD := Lib.hid (show Rd3 w2 w2.heap.size A1 (s.pan.map p3) from rd_own (n := N) (c := c1) (by rw [← HN.out]; exact hW.pan))
  clear a1' hru b2 bb hW
  go_upto_region 4 with fail
  change (fun V => Code.wp _ _ _ _ V) _
  refine gen_world (X := fun V => Blk V w2.heap.size 61 #[.slice h0.A s.stk.length h0.c, .slice A1 N c1, .slice h2.A N h2.c, .slice h3.A N h3.c, .slice h4.A s.rcv.length h4.c, .slice h5.A N h5.c, .slice h6.A N h6.c] ∧ Rd3 V w2.heap.size A1 (s.pan.map p3) ∧ Below w.heap.size w V) ⟨(by rw [← HN.out]; exact heap1_0 w2 _), RD.out.below ((Below.refl _ _).alloc (Nat.le_refl _) _), B2.out.alloc B2.out.size _⟩ ?_
  clear RD B2
  generalize w2.heap.size = bx
  rintro V ⟨xb, rd, bV⟩
  have z1 : V.cell? ⟨bx, 1, none⟩ = some (.slice A1 N c1) := xb.cells 1
  have RD := Lib.hid rd
  have BV := Lib.hid bV
  clear xb rd bV hN
  go_wp2_with fail
  go_loopw [11, 12] (fun q i wr => ∃ (j : Nat), j ≤ N ∧ i = .int .i64 j ∧ q = .int .i64 (opens (s.pan.take j) : Nat) ∧ wr = V) (fun _ i _ => N - (intOf i).toNat)
  case atStart => exact ⟨0, Nat.zero_le _, rfl, rfl, rfl⟩
  case round =>
   obtain ⟨j, hj, rfl, rfl, rfl⟩ := hrel
   have hle : opens (s.pan.take j) ≤ j := Nat.le_trans (HLE.out j) (by rw [List.length_take]; omega)
   by_cases hlt : j < N
   ·obtain ⟨x, hs⟩ : ∃ x, s.pan[j]? = some x := ⟨_, List.getElem?_eq_getElem (by rw [HN.out]; exact hlt)⟩
    obtain ⟨ad, rfl, hab, h0', h1', h2'⟩ := RD.out j (p3 x) (by rw [List.getElem?_map, hs]; rfl)
    have hx := HNX.out j x hs
    obtain ⟨xf, xv, fa, xc, xd, xby, xr, xb⟩ := x
    dsimp only [p3] at h0' h1' h2' hx
    clear hs
    by_cases k0 : fa = 0
    ·rw [if_pos k0] at hx
     have HX := Lib.hid hx
     subst k0
     clear hx
     generalize opens (s.pan.take j) = q at *
     go_wp2_with fail
     go_roundw
     case rel => exact ⟨j + 1, by omega, by go_num, by rw [HX.out]; go_num, by first | rfl | trivial⟩
     case measure => simp [intOf]; omega
    ·rw [if_neg k0] at hx
     have HX := Lib.hid hx
     have q0 : (fa == 0) = false := by simpa using k0
     clear hx k0
     generalize opens (s.pan.take j) = q at *
     go_wp2_with fail
     go_roundw
     case rel => exact ⟨j + 1, by omega, by go_num, by rw [HX.out], by first | rfl | trivial⟩
     case measure => simp [intOf]; omega
   ·obtain rfl : j = N := by omega
    rw [HFULL.out]
    go_wp2_with fail
    go_ret2
    exact ⟨by rw [HR.out] <;> rfl, BV.out⟩
end Go.Proofs.Ytgcjlkdahlfjlaa.Pn
-- squeezed
