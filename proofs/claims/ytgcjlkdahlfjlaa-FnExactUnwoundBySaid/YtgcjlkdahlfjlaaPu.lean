/- The model's UnwoundBy. (Written by wip/tools/genpu.py.) -/
import Derived.Test.YtgcjlkdahlfjlaaPo
import Derived.Test.YtgcjlkdahlfjlaaM10
namespace Go.Proofs.Ytgcjlkdahlfjlaa.Pu
set_option linter.unusedVariables false
set_option linter.unusedSimpArgs false
open Go.ChangeShapes Go.WideShapes Go.ChangeAt Go.RowKit
open PL Mem Srun Sst Ssim Smk To OwnS AskP RunF Res Swhole Sout IntsP RowA LawI LawA PMem Psf Pw Px Py Pr Pz Pt Po

def byOf (pan : List PF) (k : Int) : List Int × Bool := if 0 ≤ k ∧ k < pan.length then (match pan[k.toNat]? with
 | some x => (x.by_, true)
 | none => ([], false)) else ([], false)
def unbR (p : Pg) (f arg fuel k : Int) : List Int × Bool := if (panR p f arg fuel).2 then byOf (panR p f arg fuel).1.pan k else ([], false)
theorem unbR_len (p : Pg) (f arg fuel k : Int) : (unbR p f arg fuel k).1.length ≤ 100000 := by
 unfold unbR byOf
 split
 ·split
  ·split
   ·rename_i x hx
    exact (panR_lens p f arg fuel).by_ x (List.mem_of_getElem? hx)
   ·exact Nat.zero_le _
  ·exact Nat.zero_le _
 ·exact Nat.zero_le _
set_option maxRecDepth 100000 in
set_option maxHeartbeats 4000000 in
theorem unbS_any (lo n c : Nat) (A : Option Addr) (p : Pg) (f arg fuel kk : Int) (hn : n ≤ 9223372036854775807) (hl : p.length = n) (hsm : Small p 9223372036854775807) (w : World) (ho : OwnP w lo (.slice A n c) p) :
  Calls Try.prog 24 #[.agg #[.slice A n c], .int .i64 f, .int .i64 arg, .int .i64 fuel, .int .i64 kk] w (IntsR (unbR p f arg fuel kk) w) := by
 have hq := Lib.hid (fun W (h : Below w.heap.size w W) => l2Ask_any w.heap.size A n c p f arg fuel hn hl hsm W (ho.rd.below h) h.size)
 have HAL := Lib.hid (fun o1 : Obj => ((Below.refl w.heap.size w).alloc (Nat.le_refl _) o1))
 have hlen := (panR_lens p f arg fuel).pan
 cases ha : asks p f arg fuel with
 | false =>
  have hr := Lib.hid (show unbR p f arg fuel kk = ([], false) by unfold unbR panR; rw [ha]; rfl)
  rw [ha] at hq
  clear ha ho hsm hlen
  go_enter Try.func24, Try.ntmps24
  go_wp2_with fail
  refine (hq.out _ (HAL.out _)).mono ?_
  rintro e w1 ⟨rfl, b1⟩
  have B := Lib.hid ((HAL.out (.cells #[.slice A n c] 31)).trans (b1.mono (HAL.out (.cells #[.slice A n c] 31)).size))
  clear b1
  go_wp2_with fail
  go_ret2
  exact ⟨_, _, by rw [hr.out] <;> rfl, by rw [hr.out]; exact App.empty_own (heap1_0 w1 _) B.out.size, B.out.alloc B.out.size _⟩
 | true =>
  obtain ⟨g1, g2, g3, g4, g5, g6⟩ := start_wf (n := n) ha
  have hn6 : p.length ≤ 6 ∧ Small p 8 := okProg_small g1
  have hru := Lib.hid (fun W (h : Below w.heap.size w W) => l4Of_any lo n c A p f arg fuel hl (hn6.2.mono (by omega)) (by omega) ha W (ho.below h))
  have hrr : panR p f arg fuel = (mds (run p fuel f arg).trace, true) := by unfold panR; rw [ha]; rfl
  have hr : unbR p f arg fuel kk = byOf (mds (run p fuel f arg).trace).pan kk := by unfold unbR; rw [hrr]; rfl
  rw [hrr] at hlen
  rw [ha] at hq
  clear ha ho hsm g1 g2 g3 g4 g5 g6 hn6 hrr
  generalize mds (run p fuel f arg).trace = s at *
  dsimp only at hlen
  obtain ⟨N, hN⟩ : ∃ N, s.pan.length = N := ⟨_, rfl⟩
  have HN := Lib.hid hN
  rw [hN] at hlen
  have HR := Lib.hid hr
  clear hr
  go_enter Try.func24, Try.ntmps24
  go_wp2_with fail
  refine (hq.out _ (HAL.out _)).mono ?_
  rintro e w1 ⟨rfl, b1⟩
  have a1' : w1.cell? ⟨w.heap.size, 0, none⟩ = some (.slice A n c) := (Blk.below (B := w.heap.size + 1) (heap1_0 w (.cells #[.slice A n c] 31)) (by simpa using b1) (by omega)).cells 0
  have bb := Lib.hid ((HAL.out (.cells #[.slice A n c] 31)).trans (b1.mono (HAL.out (.cells #[.slice A n c] 31)).size))
  clear b1 hq
  go_wp2_with fail
  refine (hru.out _ bb.out).mono ?_
  rintro e w2 ⟨h0, h1, h2, h3, h4, h5, h6, rfl, hW, b2⟩
  have B2 := Lib.hid (bb.out.trans (b2.mono bb.out.size))
  have WU := Lib.hid (W4.low hW bb.out.size)
  clear a1' hru b2 bb hW
  go_upto_region 4 with fail
  change (fun V => Code.wp _ _ _ _ V) _
  refine gen_world (X := fun V => Blk V w2.heap.size 61 #[.slice h0.A s.stk.length h0.c, .slice h1.A N h1.c, .slice h2.A N h2.c, .slice h3.A N h3.c, .slice h4.A s.rcv.length h4.c, .slice h5.A N h5.c, .slice h6.A N h6.c] ∧ W4 V w.heap.size h0 h1 h2 h3 h4 h5 h6 s ∧ Below w.heap.size w V) ⟨(by rw [← HN.out]; exact heap1_0 w2 _), WU.out.below ((Below.refl _ _).alloc (Nat.le_refl _) _), B2.out.alloc B2.out.size _⟩ ?_
  clear WU B2
  generalize w2.heap.size = bx
  rintro V ⟨xb, wV, bV⟩
  have z1 : V.cell? ⟨bx, 1, none⟩ = some (.slice h1.A N h1.c) := xb.cells 1
  have z3 : V.cell? ⟨bx, 3, none⟩ = some (.slice h3.A N h3.c) := xb.cells 3
  have WV := Lib.hid wV
  have BV := Lib.hid bV
  clear xb wV bV hN
  have hmm : ((N : Nat) : Int) - 1 = (N : Int) - 1 := rfl
  go_wp2_with fail
  refine (StpS.l1In_any kk 0 ((N : Int) - 1) V).mono ?_
  rintro e V1 ⟨rfl, rfl⟩
  by_cases hk : 0 ≤ kk ∧ kk < (N : Int)
  ·have e1 : StpS.btw kk 0 ((N : Int) - 1) = true := by unfold StpS.btw; simp; omega
   rw [e1]
   obtain ⟨k, rfl⟩ : ∃ k : Nat, kk = k := ⟨kk.toNat, by omega⟩
   have hkN : k < N := by omega
   obtain ⟨x, hx⟩ : ∃ x, s.pan[k]? = some x := ⟨_, List.getElem?_eq_getElem (by rw [HN.out]; exact hkN)⟩
   have hby : byOf s.pan k = (x.by_, true) := by unfold byOf; rw [if_pos (by rw [HN.out]; exact hk), Int.toNat_natCast, hx]
   have HB := Lib.hid (HR.out.trans hby)
   obtain ⟨vals, hv, hu⟩ := WV.out.unw
   obtain ⟨Ak, ck, kv, ko, _, _, _⟩ := hu k x.by_ (by rw [List.getElem?_map, hx]; rfl)
   rw [List.length_map, HN.out] at hv
   rcases own_form hv with ⟨hx0, _⟩ | ⟨_, g3, cp3, hv3, hg3, hg3'⟩
   ·omega
   simp only [Value.slice.injEq, true_and] at hv3
   obtain ⟨e3, e4⟩ := hv3
   rw [e3] at hv z3
   have hc3 : V.cell? ⟨g3, k, none⟩ = some (.slice Ak x.by_.length ck) := (hv.cellAt _ (by omega)).trans kv
   have KO := Lib.hid ko
   clear hv hu kv ko hx e3 e4 hk hby
   go_wp2_with fail
   go_ret2
   exact ⟨Ak, ck, by rw [HB.out] <;> rfl, by rw [HB.out]; exact KO.out, BV.out⟩
  ·have e1 : StpS.btw kk 0 ((N : Int) - 1) = false := by unfold StpS.btw; simp; omega
   rw [e1]
   have hby : byOf s.pan kk = ([], false) := by unfold byOf; rw [if_neg (by rw [HN.out]; exact hk)]
   have HB := Lib.hid (HR.out.trans hby)
   clear hk hby z3
   go_wp2_with fail
   go_ret2
   exact ⟨_, _, by rw [HB.out] <;> rfl, by rw [HB.out]; exact App.empty_own (heap1_0 V _) BV.out.size, BV.out.alloc BV.out.size _⟩
end Go.Proofs.Ytgcjlkdahlfjlaa.Pu
-- squeezed
