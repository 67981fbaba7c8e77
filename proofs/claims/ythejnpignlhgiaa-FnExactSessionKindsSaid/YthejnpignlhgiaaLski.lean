import Derived.Test.YthejnpignlhgiaaRows
import Derived.Test.YthejnpignlhgiaaM2
import Derived.Test.YthejnpignlhgiaaM3
import Derived.Test.YthejnpignlhgiaaSem
import Derived.Test.YthejnpignlhgiaaSew
set_option linter.all false
namespace Go.Proofs.Ythejnpignlhgiaa.Ssm
open Lib (hid)
open Go.ChangeShapes Go.WideShapes Go.ChangeAt Go.RowKit Go.Deep
open PL Mem Srun Sst IntsP RowA SemP LawI
set_option maxHeartbeats 4000000 in
theorem markJobS_any (B n c : Nat) (A : Option Addr) (xs : List Pr) (k : Int) (hn : n ≤ 2000000) (hl : xs.length = n) (hk0 : 0 ≤ k) (hk : k ≤ 20000000000) (w : World)
  (ho : w.ownsRow B 142 2 (.slice A n c) n (cells2 xs)) :
  Calls Try.prog 89 #[.slice A n c, .int .i64 k] w fun e w' => e = .returned (.int .i64 (k + 2 * n)) ∧ Chg (fun b => (Value.slice A n c).ownBlock = some b) w w' := by
 have hO0 := hid ho
 have hL := hid hl
 clear ho hl
 go_enter Try.func89, Try.ntmps89
 go_wp2
 go_loopw [1, 5] (fun v i wr => ∃ (j : Nat) (m : Int), j ≤ n ∧ i = .int .i64 j ∧ v = .int .i64 m ∧ 0 ≤ m ∧ m ≤ 20000000000 + 2 * j ∧ Hid (m = k + 2 * j) ∧ wr.ownsRow B 142 2 (.slice A n c) n (cells2 (marksA k j ++ xs.drop j)) ∧
   Chg (fun b => (Value.slice A n c).ownBlock = some b) w wr) (fun _ i _ => n - (intOf i).toNat)
 case atStart => exact ⟨0, k, Nat.zero_le _, rfl, rfl, hk0, by omega, hid (by omega), by simpa [marksA] using hO0.out, Chg.refl _ _⟩
 case round =>
  obtain ⟨j, m, hj, rfl, rfl, m0, m1, hM, hown, hch⟩ := hrel
  have m2 : m ≤ 37000000000 := by omega
  by_cases hlt : j < n
  ·have hO := hid hown
   have hC := hid hch
   rcases own_form hown with ⟨h0, _⟩ | ⟨_, g, cap, hv, _, hg⟩
   ·omega
   ·simp only [Value.slice.injEq, true_and] at hv
    obtain ⟨rfl, rfl⟩ := hv
    obtain ⟨s, hs⟩ : ∃ s, (marksA k j ++ xs.drop j)[j]? = some s := ⟨_, List.getElem?_eq_getElem (by rw [List.length_append, marksA_length, List.length_drop, hL.out]; omega)⟩
    obtain ⟨g0, g1⟩ := own_cell2 hown hs
    have HS := hid hs
    have f := hown.frozenAt
    clear hown hch hs
    go_wp2
    go_roundw
    case rel =>
     refine ⟨j + 1, m + 1 + 1, by omega, by go_num, by go_num, by omega, by omega, hid (by rw [hM.out]; omega), ?_, ?_⟩
     ·rw [← marksA_set k xs j (by rw [hL.out]; exact hlt), ← hM.out]
      exact own_set2 hO.out HS.out (mkA m)
     ·refine Chg.put (Chg.put hC.out _ _ ?_) _ _ ?_ <;> exact .inr rfl
    case measure => simp [intOf]; omega
  ·obtain rfl : j = n := by omega
   have hC := hid hch
   clear hown hch
   go_wp2
   go_ret
   exact ⟨by rw [hM.out]; rfl, hC.out⟩
def OwnSeH (w : World) (lo hi nj nh : Nat) (vj vh : Value) (js : List Pr) (hs : List Int) : Prop :=
 OwnSe w lo nj nh vj vh js hs ∧ (∀ b, vj.ownBlock = some b → b < hi) ∧ (∀ b, vh.ownBlock = some b → b < hi)
theorem OwnSeH.of {w : World} {lo nj nh : Nat} {vj vh : Value} {js : List Pr} {hs : List Int} (h : OwnSe w lo nj nh vj vh js hs) : OwnSeH w lo w.heap.size nj nh vj vh js hs :=
 ⟨h, fun b hb => (World.ownsRow.lt h.jobs b hb).2, fun b hb => (World.ownsRow.lt h.hooks b hb).2⟩
theorem OwnSeH.chg {C : Nat → Prop} {w w' : World} {lo hi nj nh : Nat} {vj vh : Value} {js : List Pr} {hs : List Int} (h : OwnSeH w lo hi nj nh vj vh js hs) (hb : Chg C w w') (hC : ∀ k, lo ≤ k → k < hi → ¬ C k) : OwnSeH w' lo hi nj nh vj vh js hs :=
 ⟨⟨own_chg h.1.jobs hb fun k hk => hC k (World.ownsRow.lt h.1.jobs k hk).1 (h.2.1 k hk), own_chg h.1.hooks hb fun k hk => hC k (World.ownsRow.lt h.1.hooks k hk).1 (h.2.2 k hk)⟩, h.2⟩
theorem OwnSeH.below {w w' : World} {lo hi nj nh : Nat} {vj vh : Value} {js : List Pr} {hs : List Int} (h : OwnSeH w lo hi nj nh vj vh js hs) (hb : Below w.heap.size w w') : OwnSeH w' lo hi nj nh vj vh js hs :=
 ⟨h.1.below hb, h.2⟩
set_option maxHeartbeats 1000000 in
theorem markSession_any (lo hi nj nh cj ch : Nat) (Aj Ah : Option Addr) (js : List Pr) (hs : List Int) (mode k : Int) (hj : nj ≤ 2000000) (lj : js.length = nj) (hh : nh ≤ 2000000) (lh : hs.length = nh) (hk0 : 0 ≤ k) (hk : k ≤ 10000000) (w : World) (hhi : hi ≤ w.heap.size) (ho : OwnSeH w lo hi nj nh (.slice Aj nj cj) (.slice Ah nh ch) js hs) :
  Calls Try.prog 40 #[.agg #[.slice Aj nj cj, .slice Ah nh ch, .int .i64 mode], .int .i64 k] w fun e w' => e = .returned (.int .i64 (k + 2 * nj + nh)) ∧ Chg (fun b => lo ≤ b ∧ b < hi) w w' := by
 have hap := apart ho.1.jobs ho.1.hooks (by decide)
 have bj : ∀ b, (Value.slice Aj nj cj).ownBlock = some b → lo ≤ b ∧ b < hi := fun b hb => ⟨(World.ownsRow.lt ho.1.jobs b hb).1, ho.2.1 b hb⟩
 have bh : ∀ b, (Value.slice Ah nh ch).ownBlock = some b → lo ≤ b ∧ b < hi := fun b hb => ⟨(World.ownsRow.lt ho.1.hooks b hb).1, ho.2.2 b hb⟩
 have HAP := hid hap
 have HBJ := hid bj
 have HBH := hid bh
 have HO := hid ho
 have hJ := hid (fun W h => markJobS_any lo nj cj Aj js k hj lj hk0 (by omega) W h)
 have hI := hid (fun W h => markIntS_any lo nh ch Ah hs (k + 2 * nj) hh lh (by omega) (by omega) W h)
 unfold MarkedI at hI
 clear hap bj bh ho lj lh
 go_enter Try.func40, Try.ntmps40
 go_upto_region 1 with fail
 change (fun V => Code.wp _ _ _ _ V) _
 refine gen_world (X := fun V => Blk V w.heap.size 39 #[.slice Aj nj cj, .slice Ah nh ch, .int .i64 mode] ∧ Below w.heap.size w V) ⟨heap1_0 w _, (Below.refl _ _).alloc (Nat.le_refl _) _⟩ ?_
 rintro w1 ⟨x1, b1⟩
 have z1 : w1.cell? ⟨w.heap.size, 0, none⟩ = some (.slice Aj nj cj) := x1.cells 0
 have H1 := hid (HO.out.below b1)
 have X1 := hid x1
 have B1 := hid b1
 clear x1 b1
 go_wp2_with fail
 refine (hJ.out _ H1.out.1.jobs).mono ?_
 rintro e w2 ⟨rfl, c2⟩
 have y1 : w2.cell? ⟨w.heap.size, 1, none⟩ = some (.slice Ah nh ch) := (X1.out.chg c2 (fun e => by have := (HBJ.out _ e).2; omega)).cells 1
 have C2 := hid c2
 have H2 := hid (own_chg H1.out.1.hooks c2 (fun q hq e => HAP.out q e hq))
 clear c2 z1
 go_wp2_with fail
 refine (hI.out _ H2.out).mono ?_
 rintro e w3 ⟨rfl, -, c3⟩
 have C3 := hid c3
 clear c3 y1
 go_wp2_with fail
 go_ret
 refine ⟨rfl, ?_⟩
 have d1 : Chg (fun b => lo ≤ b ∧ b < hi) w w1 := Chg.of_below B1.out
 exact (d1.trans C2.out (fun x _ e => HBJ.out x e)).trans C3.out (fun x _ e => HBH.out x e)
structure StE (w : World) (n c nj nh cj ch : Nat) (A Aj Ah : Option Addr) (mode : Int) (vw vg : Value) (Lw Hw Lg Hg : Nat) (qw qg : List Int) (W : World) : Prop where
 below : Below w.heap.size w W
 a1 : Blk W w.heap.size 24 #[.slice A n c]
 a2 : Blk W (w.heap.size + 1) 28 #[.slice Aj nj cj, .slice Ah nh ch, .int .i64 mode]
 ow : OwnIH W Lw Hw vw qw
 og : OwnIH W Lg Hg vg qg
 ord : w.heap.size + 1 < Lw ∧ Lw ≤ Hw ∧ Hw ≤ Lg ∧ Lg ≤ Hg ∧ Hg ≤ W.heap.size
section
variable {w : World} {n c nj nh cj ch : Nat} {A Aj Ah : Option Addr} {mode : Int} {vw vg : Value} {Lw Hw Lg Hg : Nat} {qw qg : List Int} {W W' : World}
theorem StE.next (h : StE w n c nj nh cj ch A Aj Ah mode vw vg Lw Hw Lg Hg qw qg W) (b : Below W.heap.size W W') : StE w n c nj nh cj ch A Aj Ah mode vw vg Lw Hw Lg Hg qw qg W' := by
 have o := h.ord
 have s := b.size
 exact ⟨h.below.trans (b.mono h.below.size), h.a1.below b h.a1.lt, h.a2.below b h.a2.lt, h.ow.below (b.mono (by omega)), h.og.below (b.mono (by omega)), by omega⟩
theorem StE.cells (h : StE w n c nj nh cj ch A Aj Ah mode vw vg Lw Hw Lg Hg qw qg W) : W.cell? ⟨w.heap.size, 0, none⟩ = some (.slice A n c) ∧ W.cell? ⟨w.heap.size + 1, 0, none⟩ = some (.slice Aj nj cj) ∧ W.cell? ⟨w.heap.size + 1, 1, none⟩ = some (.slice Ah nh ch) ∧ W.cell? ⟨w.heap.size + 1, 2, none⟩ = some (.int .i64 mode) :=
 ⟨h.a1.cells 0, h.a2.cells 0, h.a2.cells 1, h.a2.cells 2⟩
theorem StE.mid {C : Nat → Prop} (h : StE w n c nj nh cj ch A Aj Ah mode vw vg Lw Hw Lg Hg qw qg W) (b : Chg C W W') (hC : ∀ x, C x → Hw ≤ x ∧ x < Lg) : StE w n c nj nh cj ch A Aj Ah mode vw vg Lw Hw Lg Hg qw qg W' := by
 have o := h.ord
 have s := b.size
 have s0 := h.below.size
 exact ⟨h.below.trans (b.below (by omega) (fun x hx hc => by have := hC x hc; omega)), h.a1.chg b (fun hc => by have := hC _ hc; omega), h.a2.chg b (fun hc => by have := hC _ hc; omega),
  h.ow.chg b (by omega) (fun k h1 h2 hc => by have := hC k hc; omega), h.og.chg b (by omega) (fun k h1 h2 hc => by have := hC k hc; omega), by omega⟩
theorem StE.markG {qg' : List Int} (h : StE w n c nj nh cj ch A Aj Ah mode vw vg Lw Hw Lg Hg qw qg W) (b : Chg (fun k => vg.ownBlock = some k) W W') (o' : OwnI W' Lg vg qg') : StE w n c nj nh cj ch A Aj Ah mode vw vg Lw Hw Lg Hg qw qg' W' := by
 have o := h.ord
 have s := b.size
 have s0 := h.below.size
 have hg : ∀ k, vg.ownBlock = some k → Lg ≤ k ∧ k < Hg := fun k hk => ⟨(World.ownsRow.lt h.og.1 k hk).1, h.og.2 k hk⟩
 exact ⟨h.below.trans (b.below (by omega) (fun x hx hc => by have := hg x hc; omega)), h.a1.chg b (fun hc => by have := hg _ hc; omega), h.a2.chg b (fun hc => by have := hg _ hc; omega),
  h.ow.chg b (by omega) (fun k h1 h2 hc => by have := hg k hc; omega), ⟨o', h.og.2⟩, by omega⟩
end
end Go.Proofs.Ythejnpignlhgiaa.Ssm
namespace Go.Proofs.Ythejnpignlhgiaa.fnExactSessionKinds
open Lib (hid)
open Go.ChangeShapes Go.WideShapes Go.ChangeAt Go.RowKit
open PL Mem To Sst Sz EqP OpenP MarkP LawN IntsP RowA SemP Sit Sew Siw LawI Ssm
theorem own : ownKnob Try.prog.godebug = none := by kernel_rfl
theorem szP_more {p : Pg} {l : Int} (h : ¬ szP l p < 0) (hl : l ≤ 1048576) : ¬ szP 1048576 p < 0 := by
 unfold szP szR at *
 split at h <;> split <;> omega
theorem cnt_small {p : Pg} (h : ¬ szP 1048576 p < 0) : cnt p ≤ 1048576 := by
 have ht : tot p ≤ 1048576 := by
  unfold szP szR at h
  split at h <;> omega
 exact Nat.le_trans (tot_cnt p) ht
theorem kinds_fits (p : Pg) (js : List Pr) (hs : List Int) (mode fuel : Int) : (Sep.kindsR p js hs mode fuel).1.length ≤ 100000 ∧ (Sep.kindsR p js hs mode fuel).2.1.length ≤ 100000 := by
 unfold Sep.kindsR
 split
 ·rename_i h
  have h1 := (Sep.ses_wf h).jobs
  have h2 := (Sep.ses_wf h).hooks
  exact ⟨Nat.le_trans h1 (by decide), Nat.le_trans h2 (by decide)⟩
 ·exact ⟨Nat.zero_le _, Nat.zero_le _⟩
def StE2 (w : World) (n c nj nh cj ch : Nat) (A Aj Ah : Option Addr) (mode : Int) (vw vg vw2 vg2 : Value) (Lw Hw Lg Hg : Nat) (qw qg qw2 qg2 : List Int) (W : World) : Prop :=
 StE w n c nj nh cj ch A Aj Ah mode vw vg Lw Hw Lg Hg qw qg W ∧ StE w n c nj nh cj ch A Aj Ah mode vw2 vg2 Lw Hw Lg Hg qw2 qg2 W
section
variable {w : World} {n c nj nh cj ch : Nat} {A Aj Ah : Option Addr} {mode : Int} {vw vg vw2 vg2 : Value} {Lw Hw Lg Hg : Nat} {qw qg qw2 qg2 : List Int} {W W' : World}
theorem StE2.next (h : StE2 w n c nj nh cj ch A Aj Ah mode vw vg vw2 vg2 Lw Hw Lg Hg qw qg qw2 qg2 W) (b : Below W.heap.size W W') : StE2 w n c nj nh cj ch A Aj Ah mode vw vg vw2 vg2 Lw Hw Lg Hg qw qg qw2 qg2 W' := ⟨h.1.next b, h.2.next b⟩
theorem StE2.mid {C : Nat → Prop} (h : StE2 w n c nj nh cj ch A Aj Ah mode vw vg vw2 vg2 Lw Hw Lg Hg qw qg qw2 qg2 W) (b : Chg C W W') (hC : ∀ x, C x → Hw ≤ x ∧ x < Lg) : StE2 w n c nj nh cj ch A Aj Ah mode vw vg vw2 vg2 Lw Hw Lg Hg qw qg qw2 qg2 W' := ⟨h.1.mid b hC, h.2.mid b hC⟩
theorem other (h : StE w n c nj nh cj ch A Aj Ah mode vw vg Lw Hw Lg Hg qw qg W) {C : Nat → Prop} (b : Chg C W W') (hC : ∀ x, C x → Lg ≤ x ∧ x < Hg) (hv : ∀ x, vg.ownBlock = some x → ¬ C x) : StE w n c nj nh cj ch A Aj Ah mode vw vg Lw Hw Lg Hg qw qg W' := by
 have o := h.ord
 have s := b.size
 have s0 := h.below.size
 exact ⟨h.below.trans (b.below (by omega) (fun x hx hc => by have := hC x hc; omega)), h.a1.chg b (fun hc => by have := hC _ hc; omega), h.a2.chg b (fun hc => by have := hC _ hc; omega),
  h.ow.chg b (by omega) (fun k h1 h2 hc => by have := hC k hc; omega), ⟨own_chg h.og.1 b hv, h.og.2⟩, by omega⟩
theorem inside {lo hi : Nat} {v : Value} {xs : List Int} (h : OwnIH W lo hi v xs) : ∀ x, v.ownBlock = some x → lo ≤ x ∧ x < hi := fun x hx => ⟨(World.ownsRow.lt h.1 x hx).1, h.2 x hx⟩
theorem StE2.mark1 {q' : List Int} (h : StE2 w n c nj nh cj ch A Aj Ah mode vw vg vw2 vg2 Lw Hw Lg Hg qw qg qw2 qg2 W) (ap : Apt vg vg2) (b : Chg (fun k => vg.ownBlock = some k) W W') (o' : OwnI W' Lg vg q') : StE2 w n c nj nh cj ch A Aj Ah mode vw vg vw2 vg2 Lw Hw Lg Hg qw q' qw2 qg2 W' :=
 ⟨h.1.markG b o', other h.2 b (inside h.1.og) (fun x hx e => ap x e hx)⟩
theorem StE2.mark2 {q' : List Int} (h : StE2 w n c nj nh cj ch A Aj Ah mode vw vg vw2 vg2 Lw Hw Lg Hg qw qg qw2 qg2 W) (ap : Apt vg vg2) (b : Chg (fun k => vg2.ownBlock = some k) W W') (o' : OwnI W' Lg vg2 q') : StE2 w n c nj nh cj ch A Aj Ah mode vw vg vw2 vg2 Lw Hw Lg Hg qw qg qw2 q' W' :=
 ⟨other h.1 b (inside h.2.og) (fun x hx e => ap x hx e), h.2.markG b o'⟩
end
set_option maxHeartbeats 8000000 in
set_option maxRecDepth 100000 in
theorem walk (A : Option Addr) (c : Nat) (p : Pg) (Aj : Option Addr) (cj : Nat) (js : List Pr) (Ah : Option Addr) (ch : Nat) (hs : List Int) (mode : Int) (fuel : Int) (hn : p.length ≤ maxLen) (hsm : Small p maxLen) (hnj : js.length ≤ maxLen) (hnh : hs.length ≤ maxLen) (w : World) (hr : RdP w w.heap.size A p) (hrs : RdSe w w.heap.size Aj Ah js hs) :
  Calls Try.prog 8 #[.agg #[.slice A p.length c], .agg #[.slice Aj js.length cj, .slice Ah hs.length ch, .int .i64 mode], .int .i64 fuel] w fun e w' => e = .returned (.bool true) ∧ Below w.heap.size w w' := by
 unfold maxLen at hn hsm hnj hnh
 have hR := hid hr
 have hRs := hid hrs
 clear hr hrs
 obtain ⟨n, hL⟩ : ∃ n, p.length = n := ⟨_, rfl⟩
 obtain ⟨nj, hLj⟩ : ∃ n, js.length = n := ⟨_, rfl⟩
 obtain ⟨nh, hLh⟩ : ∃ n, hs.length = n := ⟨_, rfl⟩
 have hz := hid (fun W h hB => szProgram_any w.heap.size A n c p 1048576 (by omega) (by omega) (by omega) hL hsm W h hB)
 have h2 := hid (App.Bl.alloc (App.Bl.alloc (App.Bl.refl w) (.cells #[.slice A n c] 24)) (.cells #[.slice Aj nj cj, .slice Ah nh ch, .int .i64 mode] 28))
 by_cases hneg : szP 1048576 p < 0
 ·have hs := hid (szR_neg _ _ hneg).1
  rw [hL, hLj, hLh]
  clear hL hLj hLh hneg
  go_enter Try.func8, Try.ntmps8
  go_wp2_with fail
  refine (hz.out _ (hR.out.below h2.out) h2.out.size).mono ?_
  rintro e w1 ⟨rfl, b1⟩
  rw [szP, hs.out]
  go_wp2_with fail
  go_ret
  exact ⟨rfl, h2.out.trans (b1.mono h2.out.size)⟩
 obtain ⟨hs1, hs2⟩ := szP_small hneg
 have hlo : 0 ≤ szP 1048576 p := by omega
 have hhi : szP 1048576 p ≤ 1048576 := by unfold szP at *; rw [szR_pos _ _ hlo]; omega
 have hz' := hid (fun W => szSession_any Aj Ah nj nh cj ch mode (szP 1048576 p) hlo (by omega) (by omega) (by omega) W)
 by_cases hneg' : szSe (szP 1048576 p) nj nh < 0
 ·have hs := hid (szSe_neg hneg')
  rw [hL, hLj, hLh]
  generalize hsz : szP 1048576 p = l1 at *
  clear hL hLj hLh hneg' hneg hs1 hs2 hsm hsz
  go_enter Try.func8, Try.ntmps8
  go_upto_region 1 with fail
  change (fun V => Code.wp _ _ _ _ V) _
  refine gen_world (X := fun V => Blk V w.heap.size 24 #[.slice A n c] ∧ Blk V (w.heap.size + 1) 28 #[.slice Aj nj cj, .slice Ah nh ch, .int .i64 mode] ∧ Below w.heap.size w V) ⟨heap2_0 w _ _, heap2_1 w _ _, h2.out⟩ ?_
  rintro w1 ⟨x1, x2, b1⟩
  have z1 : w1.cell? ⟨w.heap.size, 0, none⟩ = some (.slice A n c) := x1.cells 0
  have X2 := hid x2
  have B1 := hid b1
  clear x1 x2 b1
  go_wp2_with fail
  refine (hz.out _ (hR.out.below B1.out) B1.out.size).mono ?_
  rintro e w2 ⟨rfl, b2⟩
  have B2 := hid (B1.out.trans (b2.mono B1.out.size))
  have X22 := X2.out.below b2 X2.out.lt
  have z2 : w2.cell? ⟨w.heap.size + 1, 0, none⟩ = some (.slice Aj nj cj) := X22.cells 0
  have z3 : w2.cell? ⟨w.heap.size + 1, 1, none⟩ = some (.slice Ah nh ch) := X22.cells 1
  have z4 : w2.cell? ⟨w.heap.size + 1, 2, none⟩ = some (.int .i64 mode) := X22.cells 2
  clear b2 z1 X22
  go_wp2_with fail
  refine (hz'.out _).mono ?_
  rintro e w3 ⟨rfl, b3⟩
  rw [hs.out]
  go_wp2_with fail
  go_ret
  exact ⟨rfl, B2.out.trans (b3.mono B2.out.size)⟩
 obtain ⟨hnj1, hnh1⟩ := szSe_small hneg' hhi
 rw [hL] at hs1 hn
 have hT := hid (fun W h hB => toProgram_any w.heap.size A n c p (by omega) hL (hs2.mono (by omega)) W h hB)
 have hTs := hid (fun W h hB => toSession_any w.heap.size Aj Ah nj nh cj ch mode js hs (by omega) (by omega) hLj hLh W h hB)
 have hEp := hid (fun B A' A'' c' c'' W h h' hB => eqProgram_same B A' A'' n c' c'' p (by omega) hL (hs2.mono (by omega)) W h h' hB)
 have hEs := hid (fun B Aj Aj' Ah Ah' cj cj' ch ch' W h h' hB => eqSession_same B Aj Aj' Ah Ah' nj cj cj' nh ch ch' mode js hs (by omega) (by omega) hLj hLh W h h' hB)
 have hS := fun lo c cj ch A Aj Ah W h h' => kindsS_any lo n c nj nh cj ch A Aj Ah p js hs mode fuel (by omega) hL (hs2.mono (by omega)) (by omega) hLj (by omega) hLh W h h'
 have hI := fun lo c cj ch A Aj Ah W h h' => kindsI_any lo n c nj nh cj ch A Aj Ah p js hs mode fuel (by omega) hL (hs2.mono (by omega)) (by omega) hLj (by omega) hLh W h h'
 have hcp := cnt_small hneg
 have hMp := hid (fun lo hi c' A' W h h' => markProgram_any lo hi n c' A' p 1 (by omega) hL (hs2.mono (by omega)) (by omega) (by omega) W h h')
 unfold MarkedP at hMp
 have hkp1 : 1 + 3 * (cnt p : Int) ≤ 10000000 := by omega
 have hkp0 : 0 ≤ 1 + 3 * (cnt p : Int) := by omega
 generalize 1 + 3 * (cnt p : Int) = kp at *
 have hMs := hid (fun lo hi cj ch Aj Ah W h h' => markSession_any lo hi nj nh cj ch Aj Ah js hs mode kp (by omega) hLj (by omega) hLh hkp0 hkp1 W h h')
 have hks : ¬ (kp + 2 * (nj : Int) + (nh : Int)) < 0 := by omega
 generalize kp + 2 * (nj : Int) + (nh : Int) = ks at *
 have hft := kinds_fits p js hs mode fuel
 generalize Sep.kindsR p js hs mode fuel = r at hS hI hft
 obtain ⟨q, q2, k0⟩ := r
 dsimp only at hft
 obtain ⟨hf1, hf2⟩ := hft
 obtain ⟨m, hm⟩ : ∃ m, q.length = m := ⟨_, rfl⟩
 obtain ⟨m2, hm2⟩ : ∃ m, q2.length = m := ⟨_, rfl⟩
 have hEq := hid (fun B A' A'' c' c'' W h h' hB => eqIntS_same B A' A'' m c' c'' q (by omega) hm W h h' hB)
 have hEq2 := hid (fun B A' A'' c' c'' W h h' hB => eqIntS_same B A' A'' m2 c' c'' q2 (by omega) hm2 W h h' hB)
 have hMq := hid (fun B c' A' W h => markIntS_any B m c' A' q 1 (by omega) hm (by omega) (by omega) W h)
 have hHq := hid (fun B c' A' W h => heldIntS_any B m c' A' 1 (by omega) (by omega) (by omega) W h)
 have hMq2 := hid (fun B c' A' W h => markIntS_any B m2 c' A' q2 (1 + (m : Int)) (by omega) hm2 (by omega) (by omega) W h)
 have hHq2 := hid (fun B c' A' W h => heldIntS_any B m2 c' A' (1 + (m : Int)) (by omega) (by omega) (by omega) W h)
 unfold MarkedI at hMq hMq2
 have hkq : ¬ (1 + (m : Int)) < 0 := by omega
 have hkr : ¬ (1 + (m : Int) + (m2 : Int)) < 0 := by omega
 generalize 1 + (m : Int) = kq at *
 generalize kq + (m2 : Int) = kr at *
 unfold TwoR at hS hI
 dsimp only at hS hI
 simp only [hm, hm2] at hS hI
 have HM2 := hid hm2
 have HM := hid hm
 have HS := hid hS
 have HI := hid hI
 have hbb : (k0 != k0) = false := by simp
 rw [hL, hLj, hLh]
 have HL := hid hL
 clear hL hLj hLh hs2 hsm hS hI hs1 hn hnj hnh hnj1 hnh1 hf1 hf2 hm hm2 hcp hkp0 hkp1
 generalize hsz : szP 1048576 p = l1 at *
 clear hsz
 generalize hsz : szSe l1 nj nh = l2 at *
 clear hsz
 go_enter Try.func8, Try.ntmps8
 go_upto_region 1 with fail
 change (fun V => Code.wp _ _ _ _ V) _
 refine gen_world (X := fun V => Blk V w.heap.size 24 #[.slice A n c] ∧ Blk V (w.heap.size + 1) 28 #[.slice Aj nj cj, .slice Ah nh ch, .int .i64 mode] ∧ Below w.heap.size w V) ⟨heap2_0 w _ _, heap2_1 w _ _, h2.out⟩ ?_
 rintro w1 ⟨x1, x2, b1⟩
 have z1 : w1.cell? ⟨w.heap.size, 0, none⟩ = some (.slice A n c) := x1.cells 0
 have X1 := hid x1
 have X2 := hid x2
 have B1 := hid b1
 clear x1 x2 b1
 go_wp2_with fail
 refine (hz.out _ (hR.out.below B1.out) B1.out.size).mono ?_
 rintro e w2 ⟨rfl, b2⟩
 have B2 := hid (B1.out.trans (b2.mono B1.out.size))
 have X21 := hid (X1.out.below b2 X1.out.lt)
 have X22 := hid (X2.out.below b2 X2.out.lt)
 have z2 : w2.cell? ⟨w.heap.size + 1, 0, none⟩ = some (.slice Aj nj cj) := X22.out.cells 0
 have z3 : w2.cell? ⟨w.heap.size + 1, 1, none⟩ = some (.slice Ah nh ch) := X22.out.cells 1
 have z4 : w2.cell? ⟨w.heap.size + 1, 2, none⟩ = some (.int .i64 mode) := X22.out.cells 2
 clear b2 z1 X1 X2
 go_wp2_with fail
 refine (hz'.out _).mono ?_
 rintro e w3 ⟨rfl, b3⟩
 have B3 := hid (B2.out.trans (b3.mono B2.out.size))
 have X31 := hid (X21.out.below b3 X21.out.lt)
 have X32 := hid (X22.out.below b3 X22.out.lt)
 clear b3 z2 z3 z4 X21 X22
 have hX := hid (fun (V : World) (b : Below w3.heap.size w3 V) => (show V.cell? ⟨w.heap.size, 0, none⟩ = some (.slice A n c) ∧ V.cell? ⟨w.heap.size + 1, 0, none⟩ = some (.slice Aj nj cj) ∧ V.cell? ⟨w.heap.size + 1, 1, none⟩ = some (.slice Ah nh ch) ∧ V.cell? ⟨w.heap.size + 1, 2, none⟩ = some (.int .i64 mode) from ⟨(X31.out.below b X31.out.lt).cells 0, (X32.out.below b X32.out.lt).cells 0, (X32.out.below b X32.out.lt).cells 1, (X32.out.below b X32.out.lt).cells 2⟩))
 have BX := hid (fun (V : World) (b : Below w3.heap.size w3 V) => (show Below w.heap.size w V from B3.out.trans (b.mono B3.out.size)))
 go_wp2_with fail
 have S0 : (fun V => V.cell? ⟨w.heap.size, 0, none⟩ = some (.slice A n c) ∧ V.cell? ⟨w.heap.size + 1, 0, none⟩ = some (.slice Aj nj cj) ∧ V.cell? ⟨w.heap.size + 1, 1, none⟩ = some (.slice Ah nh ch) ∧ V.cell? ⟨w.heap.size + 1, 2, none⟩ = some (.int .i64 mode)) w3.drew := hX.out _ (Below.refl _ _).drew
 refine Last2.region_last [] (fun V => V.cell? ⟨w.heap.size, 0, none⟩ = some (.slice A n c) ∧ V.cell? ⟨w.heap.size + 1, 0, none⟩ = some (.slice Aj nj cj) ∧ V.cell? ⟨w.heap.size + 1, 1, none⟩ = some (.slice Ah nh ch) ∧ V.cell? ⟨w.heap.size + 1, 2, none⟩ = some (.int .i64 mode)) (by kernel_rfl) ?_
 refine Last2.tk 0 33 (.agg #[.slice A n c]) S0 ?_
 simp only [Act.put, Last2.s]
 refine Last2.tk 2 35 (.agg #[.slice Aj nj cj, .slice Ah nh ch, .int .i64 mode]) S0 ?_
 simp only [Act.put, Last2.s]
 refine Last2.tk 4 37 (.int .i64 fuel) S0 ?_
 simp only [Act.put, Last2.s]
 refine Last2.last_one (i := 1) (o := { dst := some 34, op := .call { callee := .value (.func 18), args := #[.tmp 33], argTypes := #[24] }, type := _, pos := _, after := _, guard := _ }) (by kernel_rfl) rfl rfl (fun K hK => ?_)
 go_simp
 refine (hT.out w3.drew (hR.out.below (BX.out _ (Below.refl _ _).drew)) (BX.out _ (Below.refl _ _).drew).size).mono ?_
 rintro e wa ⟨g1, rfl, oa, ba⟩
 have ta : Below w3.heap.size w3 wa := (Below.refl _ _).drew.trans ba
 refine hK.out _ _ (fun _ => hX.out wa ta) ?_
 clear hK K
 try simp only [Act.put, Last2.s]
 refine Last2.last_one (i := 3) (o := { dst := some 36, op := .call { callee := .value (.func 19), args := #[.tmp 35], argTypes := #[28] }, type := _, pos := _, after := _, guard := _ }) (by kernel_rfl) rfl rfl (fun K hK => ?_)
 go_simp
 refine (hTs.out wa (hRs.out.below (BX.out _ ta)) (BX.out _ ta).size).mono ?_
 rintro e wb ⟨g2, g3, rfl, ob, bb⟩
 have tb : Below w3.heap.size w3 wb := ta.trans (bb.mono ta.size)
 refine hK.out _ _ (fun _ => hX.out wb tb) ?_
 clear hK K
 try simp only [Act.put, Last2.s]
 refine Last2.last_one (i := 5) (o := { dst := some 38, op := .call { callee := .value (.func 38), args := #[.tmp 34, .tmp 36, .tmp 37], argTypes := #[35, 39, 3] }, type := _, pos := _, after := _, guard := _ }) (by kernel_rfl) rfl rfl (fun K hK => ?_)
 go_simp
 refine (HS.out _ _ _ _ _ _ _ wb (oa.below bb) ob.rd).mono ?_
 rintro e wc ⟨Aw, cw, Av, cv, rfl, ow, ow2, -, bc⟩
 have tc : Below w3.heap.size w3 wc := tb.trans (bc.mono tb.size)
 refine hK.out _ _ (fun _ => hX.out wc tc) ?_
 clear hK K
 try simp only [Act.put, Last2.s]
 have S3 := hX.out wc tc
 refine Last2.last_take (i := 6) (d := some 32) (v := .tuple #[.slice Aw m cw, .slice Av m2 cv, .bool k0]) rfl rfl (by kernel_rfl) (by kernel_rfl) (by kernel_rfl) (fun _ _ _ h => h) rfl (by kernel_rfl) (by kernel_rfl) rfl ?_ S3 ?_
 ·(intro V hV; (try dsimp only at hV); go_simp; try with_reducible rfl)
 simp only [Act.put, Last2.s]
 refine Last2.last_take (i := 7) (d := some 39) (v := .slice Aw m cw) rfl rfl (by kernel_rfl) (by kernel_rfl) (by kernel_rfl) (fun _ _ _ h => h) rfl (by kernel_rfl) (by kernel_rfl) rfl ?_ S3 ?_
 ·(intro V hV; (try dsimp only at hV); go_simp; try with_reducible rfl)
 simp only [Act.put, Last2.s]
 refine Last2.last_take (i := 8) (d := some 40) (v := .slice Av m2 cv) rfl rfl (by kernel_rfl) (by kernel_rfl) (by kernel_rfl) (fun _ _ _ h => h) rfl (by kernel_rfl) (by kernel_rfl) rfl ?_ S3 ?_
 ·(intro V hV; (try dsimp only at hV); go_simp; try with_reducible rfl)
 simp only [Act.put, Last2.s]
 refine Last2.last_take (i := 9) (d := some 41) (v := .bool k0) rfl rfl (by kernel_rfl) (by kernel_rfl) (by kernel_rfl) (fun _ _ _ h => h) rfl (by kernel_rfl) (by kernel_rfl) rfl ?_ S3 ?_
 ·(intro V hV; (try dsimp only at hV); go_simp; try with_reducible rfl)
 simp only [Act.put, Last2.s]
 refine Last2.last_take (i := 10) (d := some 8) (v := .slice Aw m cw) rfl rfl (by kernel_rfl) (by kernel_rfl) (by kernel_rfl) (fun _ _ _ h => h) rfl (by kernel_rfl) (by kernel_rfl) rfl ?_ S3 ?_
 ·(intro V hV; (try dsimp only at hV); go_simp; try with_reducible rfl)
 simp only [Act.put, Last2.s]
 refine Last2.last_take (i := 11) (d := some 9) (v := .slice Av m2 cv) rfl rfl (by kernel_rfl) (by kernel_rfl) (by kernel_rfl) (fun _ _ _ h => h) rfl (by kernel_rfl) (by kernel_rfl) rfl ?_ S3 ?_
 ·(intro V hV; (try dsimp only at hV); go_simp; try with_reducible rfl)
 simp only [Act.put, Last2.s]
 refine Last2.last_take (i := 12) (d := some 10) (v := .bool k0) rfl rfl (by kernel_rfl) (by kernel_rfl) (by kernel_rfl) (fun _ _ _ h => h) rfl (by kernel_rfl) (by kernel_rfl) rfl ?_ S3 ?_
 ·(intro V hV; (try dsimp only at hV); go_simp; try with_reducible rfl)
 simp only [Act.put, Last2.s]
 refine Last2.last_done (by kernel_rfl) ?_ _
 have TC := hid tc
 have y0 := S3.1
 have OW := hid (And.intro (OwnIH.of ow) (OwnIH.of ow2))
 have LW := hid (And.intro tb.size bc.size)
 clear S0 S3 ta tb tc oa ob ba bb bc ow ow2
 go_wp2_with fail
 refine (hT.out wc (hR.out.below (BX.out _ TC.out)) (BX.out _ TC.out).size).mono ?_
 rintro e w5 ⟨gx, rfl, o5, b5⟩
 have T5 := hid (TC.out.trans (b5.mono TC.out.size))
 have O5 := hid o5
 have OX5 := hid (OwnH.of o5)
 have OW5 := hid (And.intro (OW.out.1.below b5) (OW.out.2.below b5))
 have L5 := hid b5.size
 clear o5 b5 y0
 go_upto_region 10 with fail
 change (fun V => Code.wp _ _ _ _ V) _
 refine gen_world (X := fun V => Blk V w5.heap.size 35 #[.slice (some ⟨gx, 0, none⟩) n n] ∧ Below w5.heap.size w5 V) ⟨heap1_0 w5 _, (Below.refl _ _).alloc (Nat.le_refl _) _⟩ ?_
 rintro w6 ⟨x6, b6⟩
 have T6 := hid (T5.out.trans (b6.mono T5.out.size))
 have X6 := hid x6
 have OX6 := hid (OX5.out.below b6)
 have OW6 := hid (And.intro (OW5.out.1.below (b6.mono L5.out)) (OW5.out.2.below (b6.mono L5.out)))
 have Q6 := hid x6.lt
 clear OX5 OW5 OW
 have O6 := hid (O5.out.below b6)
 obtain ⟨-, y1, y2, y3⟩ := hX.out w6 T6.out
 clear x6 b6 O5
 generalize w5.heap.size = b16 at *
 go_wp2_with fail
 refine (hTs.out w6 (hRs.out.below (BX.out _ T6.out)) (BX.out _ T6.out).size).mono ?_
 rintro e w7 ⟨gj, gh, rfl, o7, b7⟩
 have T7 := hid (T6.out.trans (b7.mono T6.out.size))
 have O7 := hid o7
 have OX7 := hid (OX6.out.below (b7.mono (Nat.le_of_lt Q6.out)))
 have OW7 := hid (And.intro (OW6.out.1.below (b7.mono (Nat.le_trans L5.out (Nat.le_of_lt Q6.out)))) (OW6.out.2.below (b7.mono (Nat.le_trans L5.out (Nat.le_of_lt Q6.out)))))
 have OS7 := hid (OwnSeH.of o7)
 have Q7 := hid b7.size
 clear OX6 OW6
 have X7 := hid (X6.out.below b7 X6.out.lt)
 have P7 := hid (O6.out.below b7)
 clear o7 b7 y1 y2 y3 O6 X6
 go_upto_region 11 with fail
 change (fun V => Code.wp _ _ _ _ V) _
 refine gen_world (X := fun V => Blk V w7.heap.size 39 #[.slice (some ⟨gj, 0, none⟩) nj nj, .slice (some ⟨gh, 0, none⟩) nh nh, .int .i64 mode] ∧ Below w7.heap.size w7 V) ⟨heap1_0 w7 _, (Below.refl _ _).alloc (Nat.le_refl _) _⟩ ?_
 rintro w8 ⟨x8, b8⟩
 have T8 := hid (T7.out.trans (b8.mono T7.out.size))
 have X8 := hid x8
 have OX8 := hid (OX7.out.below (b8.mono (by have := Q6.out; have := Q7.out; omega)))
 have OW8 := hid (And.intro (OW7.out.1.below (b8.mono (by have := L5.out; have := Q6.out; have := Q7.out; omega))) (OW7.out.2.below (b8.mono (by have := L5.out; have := Q6.out; have := Q7.out; omega))))
 have OS8 := hid (OS7.out.below b8)
 have Q8 := hid x8.lt
 clear OX7 OW7 OS7
 have X81 := hid (X7.out.below b8 X7.out.lt)
 have O8 := hid (O7.out.below b8)
 have P8 := hid (P7.out.below b8)
 have u0 : w8.cell? ⟨b16, 0, none⟩ = some (.slice (some ⟨gx, 0, none⟩) n n) := X81.out.cells 0
 have u1 : w8.cell? ⟨w7.heap.size, 0, none⟩ = some (.slice (some ⟨gj, 0, none⟩) nj nj) := x8.cells 0
 have u2 : w8.cell? ⟨w7.heap.size, 1, none⟩ = some (.slice (some ⟨gh, 0, none⟩) nh nh) := x8.cells 1
 have u3 : w8.cell? ⟨w7.heap.size, 2, none⟩ = some (.int .i64 mode) := x8.cells 2
 clear x8 b8 O7 P7 X7
 generalize w7.heap.size = b17 at *
 go_wp2_with fail
 refine (HI.out _ _ _ _ _ _ _ w8 P8.out O8.out.rd).mono ?_
 rintro e wi ⟨Ag, cg, Af, cf, rfl, og, og2, hap, bi⟩
 have AP := hid (hap trivial)
 have OG := hid (And.intro (OwnIH.of og) (OwnIH.of og2))
 have OWi := hid (And.intro (OW8.out.1.below (bi.mono (by have := L5.out; have := Q6.out; have := Q7.out; have := Q8.out; omega))) (OW8.out.2.below (bi.mono (by have := L5.out; have := Q6.out; have := Q7.out; have := Q8.out; omega))))
 have BI := hid bi
 clear og og2 hap bi OW8
 go_wp2_with fail
 refine (hEq.out wi.heap.size Ag Aw cg cw wi (OG.out.1.1.rd HM.out) (OWi.out.1.1.rd HM.out) (Nat.le_refl _)).mono ?_
 rintro e wk ⟨rfl, bk⟩
 have OGk := hid (And.intro (OG.out.1.below bk) (OG.out.2.below bk))
 have OWk := hid (And.intro (OWi.out.1.below (bk.mono (by have := L5.out; have := Q6.out; have := Q7.out; have := Q8.out; have := BI.out.size; omega))) (OWi.out.2.below (bk.mono (by have := L5.out; have := Q6.out; have := Q7.out; have := Q8.out; have := BI.out.size; omega))))
 have BK := hid bk
 clear bk OG OWi
 go_wp2_with fail
 refine (hEq2.out wk.heap.size Af Av cf cv wk (OGk.out.2.1.rd HM2.out) (OWk.out.2.1.rd HM2.out) (Nat.le_refl _)).mono ?_
 rintro e w9 ⟨rfl, bl⟩
 have bq : Below wi.heap.size wi w9 := BK.out.trans (bl.mono BK.out.size)
 have b9 : Below w8.heap.size w8 w9 := BI.out.trans (bq.mono BI.out.size)
 have hord := And.intro LW.out (And.intro L5.out (And.intro Q6.out (And.intro Q7.out (And.intro Q8.out (And.intro BI.out.size bq.size)))))
 have QQ := hid hord
 have T9 := hid (T8.out.trans (b9.mono T8.out.size))
 have blg := bl.mono BK.out.size
 have blw : Below wc.heap.size wk w9 := bl.mono (by have := BK.out.size; omega)
 have E9 := hid (show StE2 w n c nj nh cj ch A Aj Ah mode (.slice Aw m cw) (.slice Ag m cg) (.slice Av m2 cv) (.slice Af m2 cf) wb.heap.size wc.heap.size w8.heap.size wi.heap.size q q q2 q2 w9 from
  ⟨⟨BX.out w9 T9.out, X31.out.below T9.out X31.out.lt, X32.out.below T9.out X32.out.lt, OWk.out.1.below blw, OGk.out.1.below blg, by have := X32.out.lt; omega⟩,
   ⟨BX.out w9 T9.out, X31.out.below T9.out X31.out.lt, X32.out.below T9.out X32.out.lt, OWk.out.2.below blw, OGk.out.2.below blg, by have := X32.out.lt; omega⟩⟩)
 have MK9 := hid (fun (V : World) (b : Below w9.heap.size w9 V) => (show Blk V b16 35 #[.slice (some ⟨gx, 0, none⟩) n n] ∧ Blk V b17 39 #[.slice (some ⟨gj, 0, none⟩) nj nj, .slice (some ⟨gh, 0, none⟩) nh nh, .int .i64 mode] ∧ OwnH V wc.heap.size b16 (.slice (some ⟨gx, 0, none⟩) n n) p ∧ OwnSeH V w6.heap.size b17 nj nh (.slice (some ⟨gj, 0, none⟩) nj nj) (.slice (some ⟨gh, 0, none⟩) nh nh) js hs from
  let b8 := b9.trans (b.mono b9.size)
  ⟨X81.out.below b8 X81.out.lt, X8.out.below b8 X8.out.lt, OX8.out.below (b8.mono (by omega)), OS8.out.below b8⟩))
 clear hord OWk OGk BI BK bl blg blw LW L5 Q6 Q7 Q8 bq
 have hX9 := hid (fun (V : World) (b : Below w9.heap.size w9 V) => (show V.cell? ⟨w.heap.size, 0, none⟩ = some (.slice A n c) ∧ (V.cell? ⟨w.heap.size + 1, 0, none⟩ = some (.slice Aj nj cj) ∧ V.cell? ⟨w.heap.size + 1, 1, none⟩ = some (.slice Ah nh ch) ∧ V.cell? ⟨w.heap.size + 1, 2, none⟩ = some (.int .i64 mode)) ∧ V.cell? ⟨b16, 0, none⟩ = some (.slice (some ⟨gx, 0, none⟩) n n) ∧ (V.cell? ⟨b17, 0, none⟩ = some (.slice (some ⟨gj, 0, none⟩) nj nj) ∧ V.cell? ⟨b17, 1, none⟩ = some (.slice (some ⟨gh, 0, none⟩) nh nh) ∧ V.cell? ⟨b17, 2, none⟩ = some (.int .i64 mode)) from
  let b8 := b9.trans (b.mono b9.size)
  let y9 := X8.out.below b8 X8.out.lt
  ⟨(hX.out V (T9.out.trans (b.mono T9.out.size))).1, (hX.out V (T9.out.trans (b.mono T9.out.size))).2, (X81.out.below b8 X81.out.lt).cells 0, y9.cells 0, y9.cells 1, y9.cells 2⟩))
 have BX9 := hid (fun (V : World) (b : Below w9.heap.size w9 V) => BX.out V (T9.out.trans (b.mono T9.out.size)))
 have HRx := hid (fun (V : World) (b : Below w9.heap.size w9 V) => (show RdP V V.heap.size (some ⟨gx, 0, none⟩) p from (P8.out.below (b9.trans (b.mono b9.size))).rd))
 have HRy := hid (fun (V : World) (b : Below w9.heap.size w9 V) => (show RdSe V V.heap.size (some ⟨gj, 0, none⟩) (some ⟨gh, 0, none⟩) js hs from (O8.out.below (b9.trans (b.mono b9.size))).rd))
 clear b9 u0 u1 u2 u3 hX BX O8 P8 X8 X81 OX8 OS8
 go_wp2_with fail
 have S01 : (fun V => V.cell? ⟨b16, 0, none⟩ = some (.slice (some ⟨gx, 0, none⟩) n n) ∧ V.cell? ⟨w.heap.size, 0, none⟩ = some (.slice A n c)) w9.drew := ⟨(hX9.out w9 (Below.refl _ _)).2.2.1, (hX9.out w9 (Below.refl _ _)).1⟩
 refine Last2.region_last [] (fun V => V.cell? ⟨b16, 0, none⟩ = some (.slice (some ⟨gx, 0, none⟩) n n) ∧ V.cell? ⟨w.heap.size, 0, none⟩ = some (.slice A n c)) (by kernel_rfl) ?_
 refine Last2.last_take (i := 0) (d := some 69) (v := .agg #[.slice (some ⟨gx, 0, none⟩) n n]) rfl rfl (by kernel_rfl) (by kernel_rfl) (by kernel_rfl) (fun _ _ _ h => h) rfl (by kernel_rfl) (by kernel_rfl) rfl ?_ S01 ?_
 ·(intro V hV; (try dsimp only at hV); go_simp; try with_reducible rfl)
 simp only [Act.put, Last2.s]
 refine Last2.last_take (i := 1) (d := some 70) (v := .agg #[.slice A n c]) rfl rfl (by kernel_rfl) (by kernel_rfl) (by kernel_rfl) (fun _ _ _ h => h) rfl (by kernel_rfl) (by kernel_rfl) rfl ?_ S01 ?_
 ·(intro V hV; (try dsimp only at hV); go_simp; try with_reducible rfl)
 simp only [Act.put, Last2.s]
 refine Last2.last_one (i := 2) (o := { dst := some 71, op := .call { callee := .value (.func 18), args := #[.tmp 70], argTypes := #[24] }, type := _, pos := _, after := _, guard := _ }) (by kernel_rfl) rfl rfl (fun K hK => ?_)
 go_simp
 refine (hT.out w9.drew (hR.out.below (BX9.out _ (Below.refl _ _).drew)) (BX9.out _ (Below.refl _ _).drew).size).mono ?_
 rintro e wq1 ⟨gz1, rfl, oz1, bz1⟩
 have tq1 : Below w9.heap.size w9 wq1 := (Below.refl _ _).drew.trans bz1
 refine hK.out _ _ (fun _ => ⟨(hX9.out wq1 tq1).2.2.1, (hX9.out wq1 tq1).1⟩) ?_
 clear hK K
 try simp only [Act.put, Last2.s]
 refine Last2.last_one (i := 3) (o := { dst := some 72, op := .call { callee := .value (.func 21), args := #[.tmp 69, .tmp 71], argTypes := #[35, 35] }, type := _, pos := _, after := _, guard := _ }) (by kernel_rfl) rfl rfl (fun K hK => ?_)
 go_simp
 refine (hEp.out wq1.heap.size (some ⟨gx, 0, none⟩) (some ⟨gz1, 0, none⟩) n n wq1 ((HRx.out wq1 tq1)) oz1.rd (Nat.le_refl _)).mono ?_
 rintro e wr1 ⟨rfl, br1⟩
 have tr1 : Below w9.heap.size w9 wr1 := tq1.trans (br1.mono tq1.size)
 refine hK.out _ _ (fun _ => ⟨(hX9.out wr1 tr1).2.2.1, (hX9.out wr1 tr1).1⟩) ?_
 clear hK K
 try simp only [Act.put, Last2.s]
 have S11 : (fun V => V.cell? ⟨b16, 0, none⟩ = some (.slice (some ⟨gx, 0, none⟩) n n) ∧ V.cell? ⟨w.heap.size, 0, none⟩ = some (.slice A n c)) wr1 := ⟨(hX9.out wr1 tr1).2.2.1, (hX9.out wr1 tr1).1⟩
 refine Last2.last_take (i := 4) (d := some 73) (v := .bool false) rfl rfl (by kernel_rfl) (by kernel_rfl) (by kernel_rfl) (fun _ _ _ h => h) rfl (by kernel_rfl) (by kernel_rfl) rfl ?_ S11 ?_
 ·(intro V hV; (try dsimp only at hV); go_simp; try with_reducible rfl)
 simp only [Act.put, Last2.s]
 refine Last2.last_done (by kernel_rfl) ?_ _
 have TR1 := hid tr1
 clear oz1 bz1 br1 tq1 S01 S11 tr1
 have tr1 := TR1.out
 go_wp2_with fail
 have S02 : (fun V => (V.cell? ⟨b17, 0, none⟩ = some (.slice (some ⟨gj, 0, none⟩) nj nj) ∧ V.cell? ⟨b17, 1, none⟩ = some (.slice (some ⟨gh, 0, none⟩) nh nh) ∧ V.cell? ⟨b17, 2, none⟩ = some (.int .i64 mode)) ∧ V.cell? ⟨w.heap.size + 1, 0, none⟩ = some (.slice Aj nj cj) ∧ V.cell? ⟨w.heap.size + 1, 1, none⟩ = some (.slice Ah nh ch) ∧ V.cell? ⟨w.heap.size + 1, 2, none⟩ = some (.int .i64 mode)) wr1.drew := ⟨(hX9.out wr1 tr1).2.2.2, (hX9.out wr1 tr1).2.1⟩
 refine Last2.region_last [] (fun V => (V.cell? ⟨b17, 0, none⟩ = some (.slice (some ⟨gj, 0, none⟩) nj nj) ∧ V.cell? ⟨b17, 1, none⟩ = some (.slice (some ⟨gh, 0, none⟩) nh nh) ∧ V.cell? ⟨b17, 2, none⟩ = some (.int .i64 mode)) ∧ V.cell? ⟨w.heap.size + 1, 0, none⟩ = some (.slice Aj nj cj) ∧ V.cell? ⟨w.heap.size + 1, 1, none⟩ = some (.slice Ah nh ch) ∧ V.cell? ⟨w.heap.size + 1, 2, none⟩ = some (.int .i64 mode)) (by kernel_rfl) ?_
 refine Last2.last_take (i := 0) (d := some 74) (v := .agg #[.slice (some ⟨gj, 0, none⟩) nj nj, .slice (some ⟨gh, 0, none⟩) nh nh, .int .i64 mode]) rfl rfl (by kernel_rfl) (by kernel_rfl) (by kernel_rfl) (fun _ _ _ h => h) rfl (by kernel_rfl) (by kernel_rfl) rfl ?_ S02 ?_
 ·(intro V hV; (try dsimp only at hV); go_simp; try with_reducible rfl)
 simp only [Act.put, Last2.s]
 refine Last2.last_take (i := 1) (d := some 75) (v := .agg #[.slice Aj nj cj, .slice Ah nh ch, .int .i64 mode]) rfl rfl (by kernel_rfl) (by kernel_rfl) (by kernel_rfl) (fun _ _ _ h => h) rfl (by kernel_rfl) (by kernel_rfl) rfl ?_ S02 ?_
 ·(intro V hV; (try dsimp only at hV); go_simp; try with_reducible rfl)
 simp only [Act.put, Last2.s]
 refine Last2.last_one (i := 2) (o := { dst := some 76, op := .call { callee := .value (.func 19), args := #[.tmp 75], argTypes := #[28] }, type := _, pos := _, after := _, guard := _ }) (by kernel_rfl) rfl rfl (fun K hK => ?_)
 go_simp
 refine (hTs.out wr1.drew (hRs.out.below (BX9.out _ (tr1.drew))) (BX9.out _ (tr1.drew)).size).mono ?_
 rintro e wq2 ⟨gy1, gy2, rfl, oz2, bz2⟩
 have tq2 : Below wr1.heap.size wr1 wq2 := (Below.refl _ _).drew.trans bz2
 refine hK.out _ _ (fun _ => ⟨(hX9.out wq2 (tr1.trans (tq2.mono tr1.size))).2.2.2, (hX9.out wq2 (tr1.trans (tq2.mono tr1.size))).2.1⟩) ?_
 clear hK K
 try simp only [Act.put, Last2.s]
 refine Last2.last_one (i := 3) (o := { dst := some 77, op := .call { callee := .value (.func 22), args := #[.tmp 74, .tmp 76], argTypes := #[39, 39] }, type := _, pos := _, after := _, guard := _ }) (by kernel_rfl) rfl rfl (fun K hK => ?_)
 go_simp
 refine (hEs.out wq2.heap.size (some ⟨gj, 0, none⟩) (some ⟨gy1, 0, none⟩) (some ⟨gh, 0, none⟩) (some ⟨gy2, 0, none⟩) nj nj nh nh wq2 ((HRy.out wq2 (tr1.trans (tq2.mono tr1.size)))) oz2.rd (Nat.le_refl _)).mono ?_
 rintro e wr2 ⟨rfl, br2⟩
 have tr2 : Below wr1.heap.size wr1 wr2 := tq2.trans (br2.mono tq2.size)
 refine hK.out _ _ (fun _ => ⟨(hX9.out wr2 (tr1.trans (tr2.mono tr1.size))).2.2.2, (hX9.out wr2 (tr1.trans (tr2.mono tr1.size))).2.1⟩) ?_
 clear hK K
 try simp only [Act.put, Last2.s]
 have S12 : (fun V => (V.cell? ⟨b17, 0, none⟩ = some (.slice (some ⟨gj, 0, none⟩) nj nj) ∧ V.cell? ⟨b17, 1, none⟩ = some (.slice (some ⟨gh, 0, none⟩) nh nh) ∧ V.cell? ⟨b17, 2, none⟩ = some (.int .i64 mode)) ∧ V.cell? ⟨w.heap.size + 1, 0, none⟩ = some (.slice Aj nj cj) ∧ V.cell? ⟨w.heap.size + 1, 1, none⟩ = some (.slice Ah nh ch) ∧ V.cell? ⟨w.heap.size + 1, 2, none⟩ = some (.int .i64 mode)) wr2 := ⟨(hX9.out wr2 (tr1.trans (tr2.mono tr1.size))).2.2.2, (hX9.out wr2 (tr1.trans (tr2.mono tr1.size))).2.1⟩
 refine Last2.last_take (i := 4) (d := some 78) (v := .bool false) rfl rfl (by kernel_rfl) (by kernel_rfl) (by kernel_rfl) (fun _ _ _ h => h) rfl (by kernel_rfl) (by kernel_rfl) rfl ?_ S12 ?_
 ·(intro V hV; (try dsimp only at hV); go_simp; try with_reducible rfl)
 simp only [Act.put, Last2.s]
 refine Last2.last_done (by kernel_rfl) ?_ _
 have TR2 := hid (tr1.trans (tr2.mono tr1.size))
 clear oz2 bz2 br2 tq2 S02 S12 tr2 tr1
 have E10 := hid (E9.out.next TR2.out)
 obtain ⟨xa, xb, ox, os⟩ := MK9.out _ TR2.out
 have u0 : wr2.cell? ⟨b16, 0, none⟩ = some (.slice (some ⟨gx, 0, none⟩) n n) := xa.cells 0
 have XB := hid xb
 have OX := hid ox
 have OS := hid os
 have XA := hid (Nat.le_of_lt xa.lt)
 clear xa xb ox os hX9 BX9 HRx HRy MK9 E9 TR1 TR2
 go_wp2_with fail
 refine (hMp.out wc.heap.size b16 n (some ⟨gx, 0, none⟩) wr2 XA.out OX.out).mono ?_
 rintro e w11 ⟨rfl, -, c11⟩
 have E11 := hid (E10.out.mid c11 (fun x hx => by have := QQ.out; omega))
 have xb := XB.out.chg c11 (fun hc => by have := QQ.out; omega)
 have OS11 := hid (OS.out.chg c11 (fun k h1 h2 hc => by have := QQ.out; omega))
 have u1 : w11.cell? ⟨b17, 0, none⟩ = some (.slice (some ⟨gj, 0, none⟩) nj nj) := xb.cells 0
 have u2 : w11.cell? ⟨b17, 1, none⟩ = some (.slice (some ⟨gh, 0, none⟩) nh nh) := xb.cells 1
 have u3 : w11.cell? ⟨b17, 2, none⟩ = some (.int .i64 mode) := xb.cells 2
 have XB11 := hid (Nat.le_of_lt xb.lt)
 clear c11 u0 xb XB OX OS XA E10
 go_wp2_with fail
 refine (hMs.out w6.heap.size b17 nj nh (some ⟨gj, 0, none⟩) (some ⟨gh, 0, none⟩) w11 XB11.out OS11.out).mono ?_
 rintro e w12 ⟨rfl, c12⟩
 have E12 := hid (E11.out.mid c12 (fun x hx => by have := QQ.out; omega))
 clear c12 u1 u2 u3 XB11 OS11 E11
 go_wp2_with fail
 refine (hEq.out w12.heap.size Ag Aw cg cw w12 (E12.out.1.og.1.rd HM.out) (E12.out.1.ow.1.rd HM.out) (Nat.le_refl _)).mono ?_
 rintro e w12b ⟨rfl, b13⟩
 have E12b := hid (E12.out.next b13)
 clear b13 E12
 go_wp2_with fail
 refine (hEq2.out w12b.heap.size Af Av cf cv w12b (E12b.out.2.og.1.rd HM2.out) (E12b.out.2.ow.1.rd HM2.out) (Nat.le_refl _)).mono ?_
 rintro e w13 ⟨rfl, b13⟩
 have E13 := hid (E12b.out.next b13)
 clear b13 E12b
 go_wp2_with fail
 refine (hMq.out w8.heap.size cg Ag w13 (by have := E13.out.1.og.1; unfold OwnI at this; rw [HM.out] at this; exact this)).mono ?_
 rintro e w13b ⟨rfl, o14, c14⟩
 have E13b := hid (E13.out.mark1 AP.out c14 (by unfold OwnI; rw [marksI_length]; exact o14))
 clear o14 c14 E13
 go_wp2_with fail
 refine (hMq2.out w8.heap.size cf Af w13b (by have := E13b.out.2.og.1; unfold OwnI at this; rw [HM2.out] at this; exact this)).mono ?_
 rintro e w14 ⟨rfl, o14, c14⟩
 have E14 := hid (E13b.out.mark2 AP.out c14 (by unfold OwnI; rw [marksI_length]; exact o14))
 clear o14 c14 E13b
 go_wp2_with fail
 refine (hHq.out w14.heap.size cg Ag w14 (E14.out.1.og.1.rd (marksI_length _ _))).mono ?_
 rintro e w15 ⟨rfl, rfl⟩
 go_wp2_with fail
 refine (hHq2.out w14.heap.size cf Af w14 (E14.out.2.og.1.rd (marksI_length _ _))).mono ?_
 rintro e w15 ⟨rfl, rfl⟩
 have hX14 := hid (fun (V : World) (b : Below w14.heap.size w14 V) => (show (fun V => V.cell? ⟨w.heap.size, 0, none⟩ = some (.slice A n c) ∧ V.cell? ⟨w.heap.size + 1, 0, none⟩ = some (.slice Aj nj cj) ∧ V.cell? ⟨w.heap.size + 1, 1, none⟩ = some (.slice Ah nh ch) ∧ V.cell? ⟨w.heap.size + 1, 2, none⟩ = some (.int .i64 mode)) V from (E14.out.next b).1.cells))
 go_wp2_with fail
 have S0 : (fun V => V.cell? ⟨w.heap.size, 0, none⟩ = some (.slice A n c) ∧ V.cell? ⟨w.heap.size + 1, 0, none⟩ = some (.slice Aj nj cj) ∧ V.cell? ⟨w.heap.size + 1, 1, none⟩ = some (.slice Ah nh ch) ∧ V.cell? ⟨w.heap.size + 1, 2, none⟩ = some (.int .i64 mode)) w14.drew := hX14.out _ (Below.refl _ _).drew
 refine Last2.region_last [] (fun V => V.cell? ⟨w.heap.size, 0, none⟩ = some (.slice A n c) ∧ V.cell? ⟨w.heap.size + 1, 0, none⟩ = some (.slice Aj nj cj) ∧ V.cell? ⟨w.heap.size + 1, 1, none⟩ = some (.slice Ah nh ch) ∧ V.cell? ⟨w.heap.size + 1, 2, none⟩ = some (.int .i64 mode)) (by kernel_rfl) ?_
 refine Last2.tk 0 124 (.agg #[.slice A n c]) S0 ?_
 simp only [Act.put, Last2.s]
 refine Last2.tk 2 126 (.agg #[.slice Aj nj cj, .slice Ah nh ch, .int .i64 mode]) S0 ?_
 simp only [Act.put, Last2.s]
 refine Last2.tk 4 128 (.int .i64 fuel) S0 ?_
 simp only [Act.put, Last2.s]
 refine Last2.last_one (i := 1) (o := { dst := some 125, op := .call { callee := .value (.func 18), args := #[.tmp 124], argTypes := #[24] }, type := _, pos := _, after := _, guard := _ }) (by kernel_rfl) rfl rfl (fun K hK => ?_)
 go_simp
 refine (hT.out w14.drew (hR.out.below (E14.out.next (Below.refl _ _).drew).1.below) (E14.out.next (Below.refl _ _).drew).1.below.size).mono ?_
 rintro e wa ⟨g1, rfl, oa, ba⟩
 have ta : Below w14.heap.size w14 wa := (Below.refl _ _).drew.trans ba
 refine hK.out _ _ (fun _ => hX14.out wa ta) ?_
 clear hK K
 try simp only [Act.put, Last2.s]
 refine Last2.last_one (i := 3) (o := { dst := some 127, op := .call { callee := .value (.func 19), args := #[.tmp 126], argTypes := #[28] }, type := _, pos := _, after := _, guard := _ }) (by kernel_rfl) rfl rfl (fun K hK => ?_)
 go_simp
 refine (hTs.out wa (hRs.out.below (E14.out.next ta).1.below) (E14.out.next ta).1.below.size).mono ?_
 rintro e wd ⟨g2, g3, rfl, ob, bb⟩
 have tb : Below w14.heap.size w14 wd := ta.trans (bb.mono ta.size)
 refine hK.out _ _ (fun _ => hX14.out wd tb) ?_
 clear hK K
 try simp only [Act.put, Last2.s]
 refine Last2.last_one (i := 5) (o := { dst := some 129, op := .call { callee := .value (.func 39), args := #[.tmp 125, .tmp 127, .tmp 128], argTypes := #[35, 39, 3] }, type := _, pos := _, after := _, guard := _ }) (by kernel_rfl) rfl rfl (fun K hK => ?_)
 go_simp
 refine (HI.out _ _ _ _ _ _ _ wd (oa.below bb) ob.rd).mono ?_
 rintro e w16 ⟨Az, cz, Ay, cy, rfl, oz, oy, -, bz⟩
 have tc : Below w14.heap.size w14 w16 := tb.trans (bz.mono tb.size)
 refine hK.out _ _ (fun _ => hX14.out w16 tc) ?_
 clear hK K
 try simp only [Act.put, Last2.s]
 have S7 := hX14.out w16 tc
 refine Last2.last_take (i := 6) (d := some 123) (v := .tuple #[.slice Az m cz, .slice Ay m2 cy, .bool k0]) rfl rfl (by kernel_rfl) (by kernel_rfl) (by kernel_rfl) (fun _ _ _ h => h) rfl (by kernel_rfl) (by kernel_rfl) rfl ?_ S7 ?_
 ·(intro V hV; (try dsimp only at hV); go_simp; try with_reducible rfl)
 simp only [Act.put, Last2.s]
 refine Last2.last_take (i := 7) (d := some 130) (v := .slice Az m cz) rfl rfl (by kernel_rfl) (by kernel_rfl) (by kernel_rfl) (fun _ _ _ h => h) rfl (by kernel_rfl) (by kernel_rfl) rfl ?_ S7 ?_
 ·(intro V hV; (try dsimp only at hV); go_simp; try with_reducible rfl)
 simp only [Act.put, Last2.s]
 refine Last2.last_take (i := 8) (d := some 131) (v := .slice Ay m2 cy) rfl rfl (by kernel_rfl) (by kernel_rfl) (by kernel_rfl) (fun _ _ _ h => h) rfl (by kernel_rfl) (by kernel_rfl) rfl ?_ S7 ?_
 ·(intro V hV; (try dsimp only at hV); go_simp; try with_reducible rfl)
 simp only [Act.put, Last2.s]
 refine Last2.last_take (i := 9) (d := some 132) (v := .bool k0) rfl rfl (by kernel_rfl) (by kernel_rfl) (by kernel_rfl) (fun _ _ _ h => h) rfl (by kernel_rfl) (by kernel_rfl) rfl ?_ S7 ?_
 ·(intro V hV; (try dsimp only at hV); go_simp; try with_reducible rfl)
 simp only [Act.put, Last2.s]
 refine Last2.last_take (i := 10) (d := some 19) (v := .slice Az m cz) rfl rfl (by kernel_rfl) (by kernel_rfl) (by kernel_rfl) (fun _ _ _ h => h) rfl (by kernel_rfl) (by kernel_rfl) rfl ?_ S7 ?_
 ·(intro V hV; (try dsimp only at hV); go_simp; try with_reducible rfl)
 simp only [Act.put, Last2.s]
 refine Last2.last_take (i := 11) (d := some 20) (v := .slice Ay m2 cy) rfl rfl (by kernel_rfl) (by kernel_rfl) (by kernel_rfl) (fun _ _ _ h => h) rfl (by kernel_rfl) (by kernel_rfl) rfl ?_ S7 ?_
 ·(intro V hV; (try dsimp only at hV); go_simp; try with_reducible rfl)
 simp only [Act.put, Last2.s]
 refine Last2.last_take (i := 12) (d := some 21) (v := .bool k0) rfl rfl (by kernel_rfl) (by kernel_rfl) (by kernel_rfl) (fun _ _ _ h => h) rfl (by kernel_rfl) (by kernel_rfl) rfl ?_ S7 ?_
 ·(intro V hV; (try dsimp only at hV); go_simp; try with_reducible rfl)
 simp only [Act.put, Last2.s]
 refine Last2.last_done (by kernel_rfl) ?_ _
 have OZ := hid (And.intro oz oy)
 have E16 := hid (E14.out.next tc)
 clear S0 S7 ta tb tc oa ob ba bb bz oz oy E14 hX14
 go_wp2_with fail
 refine (hEq.out w16.heap.size Az Aw cz cw w16 (OZ.out.1.rd HM.out) (E16.out.1.ow.1.rd HM.out) (Nat.le_refl _)).mono ?_
 rintro e w16b ⟨rfl, b17'⟩
 have E16b := hid (E16.out.next b17')
 have OZ2 := hid (own_below OZ.out.2 b17' (Nat.le_refl _))
 clear b17' E16 OZ
 go_wp2_with fail
 refine (hEq2.out w16b.heap.size Ay Av cy cv w16b (OwnI.rd OZ2.out HM2.out) (E16b.out.2.ow.1.rd HM2.out) (Nat.le_refl _)).mono ?_
 rintro e w17 ⟨rfl, b17'⟩
 have E17 := hid (E16b.out.next b17')
 clear b17' E16b OZ2
 go_wp2_with fail
 refine (hHq.out w17.heap.size cg Ag w17 (E17.out.1.og.1.rd (marksI_length _ _))).mono ?_
 rintro e w18 ⟨rfl, rfl⟩
 go_wp2_with fail
 refine (hHq2.out w17.heap.size cf Af w17 (E17.out.2.og.1.rd (marksI_length _ _))).mono ?_
 rintro e w18 ⟨rfl, rfl⟩
 go_wp2_with fail
 go_ret
 exact ⟨rfl, E17.out.1.below⟩
set_option maxRecDepth 100000 in
theorem lifted (os : Os) (started : os.Started) (H : Type) (enc : TypeId × Value → H) :
  ReturnsInHanded {} Try.checked os 8 .any (Rows.fnExactSessionKindsSpec.pre6 enc Try.prog Try.f8 Rows.fnExactSessionKindsRow.domain false) (Rows.fnExactSessionKindsSpec.post enc Try.prog Try.f8 false true false false) := by
 refine returnsInHanded_of_change (C := Try.checked) own started (by kernel_rfl) Try.func8
  (ChangeSpec.witness6 (enc := enc) (C := Try.checked) false ⟨#[], #[.agg #[.slice none 0 0], .agg #[.slice none 0 0, .slice none 0 0, .int .i64 0], .int .i64 0], []⟩ 8 (by kernel_rfl) (by kernel_rfl) (by kernel_rfl) (by kernel_rfl)) ?_
 intro W base args ds gs before hval0 hW hcnd _
 have hval : ∀ (j : Nat) t v, Try.f8.params[j]? = some t → args[j]? = some v → Value.okWide Try.prog W .any base t v := hval0
 have hW' := hW
 obtain ⟨p, q, hA0, hV, rfl, hfz, hnd⟩ := hW
 have hA : DataW.TrodAll enc Try.prog W 0 (fun _ => true) true Try.f8.params.toList args.toList ds p := hA0
 rw [Try.params8] at hA hval
 obtain ⟨v0, vs0, d0, ds0, p0, q0, hargs, rfl, rfl, h0, rest0⟩ := trodAll_cons hA
 obtain ⟨v1, vs1, d1, ds1, p1, q1, rfl, rfl, rfl, h1, rest1⟩ := trodAll_cons rest0
 obtain ⟨v2, vs2, d2, ds2, p2, q2, rfl, rfl, rfl, h2, rest2⟩ := trodAll_cons rest1
 obtain ⟨rfl, rfl, rfl⟩ := trodAll_nil rest2
 obtain rfl : args = #[v0, v1, v2] := by cases args; simp_all
 obtain ⟨rfl, rfl⟩ := trodVars_none hV
 obtain ⟨A0, c0, P0, rfl, n0, r0, f0, s0⟩ := open_prog (hval 0 24 v0 rfl rfl) h0
 obtain ⟨Aj, cj, js, Ah, ch, hs, md, rfl, nj, nh, rse, fm, fj, fh⟩ := open_session (hval 1 28 v1 rfl rfl) h1
 obtain ⟨z2, rfl, f2⟩ := open_int_fit (hval 2 3 v2 rfl rfl) h2
 have lt0 : ∀ x ∈ p0, x.block < W.heap.size := by obtain ⟨m, hm⟩ := h0; exact DataW.trod_lt m _ _ _ hm
 have lt1 : ∀ x ∈ p1, x.block < W.heap.size := by obtain ⟨m, hm⟩ := h1; exact DataW.trod_lt m _ _ _ hm
 have lt2 : ∀ x ∈ p2, x.block < W.heap.size := by obtain ⟨m, hm⟩ := h2; exact DataW.trod_lt m _ _ _ hm
 clear hA0 hval0
 refine (walk A0 c0 P0 Aj cj js Ah ch hs md z2 n0 s0 nj nh W r0 rse).mono fun e W' ⟨he, hg⟩ => ?_
 subst he
 exact ⟨_, rfl, _, _, _, [], _, [], hW', trodAll_mk1 (shut_bool Try.underlying4 _), (trodAll_cons_mk (Below.trod laidOut (by kernel_rfl) (of_decide_eq_true (by kernel_rfl)) h0 hg lt0) (trodAll_cons_mk (Below.trod laidOut (by kernel_rfl) (of_decide_eq_true (by kernel_rfl)) h1 hg lt1) (trodAll_cons_mk (Below.trod laidOut (by kernel_rfl) (of_decide_eq_true (by kernel_rfl)) h2 hg lt2) trodAll_mk0))), rfl, hg.frame _, fun h => by cases h⟩
theorem over : Rows.fnExactSessionKindsRow.holds Try.pinned (OpenSpec.ofChange Rows.fnExactSessionKindsSpec) :=
 OpenClaim.holds_of_wide 8 Try.f8 rfl rfl rfl rfl rfl rfl rfl ⟨rfl, rfl, rfl, rfl, rfl⟩ rfl rfl rfl rfl rfl (by kernel_rfl) Try.func8 (by kernel_rfl)
  (of_decide_eq_true (by kernel_rfl)) (by unfold Func.isWrapper; first | (rw [if_pos (by decide +kernel)]; kernel_rfl) | (rw [if_neg (by decide +kernel)]; exact ⟨rfl, rfl⟩))
  (fun os started H enc _ => lifted os started H enc)
theorem proved : Rows.FnExactSessionKindsSaid :=
 over
#print axioms proved
end Go.Proofs.Ythejnpignlhgiaa.fnExactSessionKinds
-- squeezed
