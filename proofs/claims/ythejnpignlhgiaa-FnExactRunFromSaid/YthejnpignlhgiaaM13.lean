import Derived.Test.YthejnpignlhgiaaM1
import Derived.Deep.RegionWith
import Derived.Test.YthejnpignlhgiaaM2
import Derived.Test.YthejnpignlhgiaaM12
set_option linter.all false
namespace Go.Proofs.Ythejnpignlhgiaa.EvtP
open Lib (hid)
open Go.ChangeShapes Go.WideShapes Go.ChangeAt Go.RowKit
open PL Mem To MarkP
theorem eqEvent_same (k a b : Int) (w : World) :
  Calls Try.prog 113 #[.agg #[.int .i64 k, .int .i64 a, .int .i64 b], .agg #[.int .i64 k, .int .i64 a, .int .i64 b]] w fun e w' => e = .returned (.bool true) ∧ Below w.heap.size w w' := by
 go_enter Try.func113, Try.ntmps113
 go_wp2
 go_ret
 exact ⟨rfl, ((Below.refl _ _).alloc (Nat.le_refl _) _).alloc (by simp) _⟩
theorem eqEventS_same (B : Nat) (A A' : Option Addr) (n c c' : Nat) (xs : List Tr) (hn : n ≤ 9223372036854775807) (hl : xs.length = n) (w : World) (hr : Rd3 w B A xs) (hr' : Rd3 w B A' xs) (hB : B ≤ w.heap.size) :
  Calls Try.prog 83 #[.slice A n c, .slice A' n c'] w fun e w' => e = .returned (.bool true) ∧ Below w.heap.size w w' := by
 have hR := hid hr
 have hR' := hid hr'
 have hL := hid hl
 clear hr hr' hl
 go_enter Try.func83, Try.ntmps83
 go_wp2
 go_loopw [5] (fun i wr => ∃ k : Nat, k ≤ n ∧ i = .int .i64 k ∧ Below w.heap.size w wr) (fun i _ => n - (intOf i).toNat)
 case atStart => exact ⟨0, Nat.zero_le _, rfl, Below.refl _ _⟩
 case round =>
  obtain ⟨k, hk, rfl, hb⟩ := hrel
  by_cases hlt : k < n
  ·obtain ⟨⟨s0, s1, s2⟩, hs⟩ : ∃ s, xs[k]? = some s := ⟨_, List.getElem?_eq_getElem (by rw [hL.out]; exact hlt)⟩
   obtain ⟨ad, rfl, hab, h0, h1, h2⟩ := (hR.out.below (hb.mono hB)) k _ hs
   obtain ⟨ad', rfl, hab', h0', h1', h2'⟩ := (hR'.out.below (hb.mono hB)) k _ hs
   have hsz := hb.size
   clear hs
   dsimp only at h0 h1 h2 h0' h1' h2'
   go_wp2_with fail
   go_region_with (go_at_call 113; refine (eqEvent_same _ _ _ _).mono ?_; rintro e w1 ⟨rfl, hb1⟩)
   all_goals
    go_wp2
    go_roundw
    case rel => exact ⟨k + 1, by omega, by go_num, hb.trans ((below_undrew hb1).mono hsz)⟩
    case measure => simp [intOf]; omega
  ·go_wp2
   go_ret
   exact ⟨rfl, hb⟩
def MarkedE (B n c : Nat) (A : Option Addr) (k : Int) (w : World) (e : Ending) (w' : World) : Prop :=
 e = .returned (.int .i64 (k + 3 * n)) ∧ w'.ownsRow B 94 3 (.slice A n c) n (cells3 (marks k n)) ∧ Chg (fun b => (Value.slice A n c).ownBlock = some b) w w'
theorem markEventS_any (B n c : Nat) (A : Option Addr) (xs : List Tr) (k : Int) (hn : n ≤ 2000000) (hl : xs.length = n) (hk0 : 0 ≤ k) (hk : k ≤ 20000000000) (w : World)
  (ho : w.ownsRow B 94 3 (.slice A n c) n (cells3 xs)) :
  Calls Try.prog 84 #[.slice A n c, .int .i64 k] w (MarkedE B n c A k w) := by
 have hO0 := hid ho
 have hL := hid hl
 clear ho hl
 go_enter Try.func84, Try.ntmps84
 go_wp2
 go_loopw [1, 5] (fun v i wr => ∃ (j : Nat) (m : Int), j ≤ n ∧ i = .int .i64 j ∧ v = .int .i64 m ∧ 0 ≤ m ∧ m ≤ 20000000000 + 3 * j ∧ Hid (m = k + 3 * j) ∧ wr.ownsRow B 94 3 (.slice A n c) n (cells3 (marks k j ++ xs.drop j)) ∧
   Chg (fun b => (Value.slice A n c).ownBlock = some b) w wr) (fun _ i _ => n - (intOf i).toNat)
 case atStart => exact ⟨0, k, Nat.zero_le _, rfl, rfl, hk0, by omega, hid (by omega), by simpa [marks] using hO0.out, Chg.refl _ _⟩
 case round =>
  obtain ⟨j, m, hj, rfl, rfl, m0, m1, hM, hown, hch⟩ := hrel
  have m2 : m ≤ 27000000000 := by omega
  by_cases hlt : j < n
  ·have hO := hid hown
   have hC := hid hch
   rcases own_form hown with ⟨h0, _⟩ | ⟨_, g, cap, hv, _, hg⟩
   ·omega
   ·simp only [Value.slice.injEq, true_and] at hv
    obtain ⟨rfl, rfl⟩ := hv
    obtain ⟨u0, u1, u2, g0, g1, g2⟩ := own_cell3 hown hlt
    have f := hown.frozenAt
    clear hown hch
    go_wp2
    go_roundw
    case rel =>
     refine ⟨j + 1, m + 1 + 1 + 1, by omega, by go_num, rfl, by omega, by omega, hid (by rw [hM.out]; omega), ?_, ?_⟩
     ·rw [← marks_set k xs j (by rw [hL.out]; exact hlt), ← hM.out]
      exact own_set3 hO.out hlt (mkTr m)
     ·refine Chg.put (Chg.put (Chg.put hC.out _ _ ?_) _ _ ?_) _ _ ?_ <;> exact .inr rfl
    case measure => simp [intOf]; omega
  ·obtain rfl : j = n := by omega
   have hO := hid hown
   have hC := hid hch
   clear hown hch
   go_wp2
   go_ret
   refine ⟨by rw [hM.out]; rfl, ?_, hC.out⟩
   have := hO.out
   rwa [List.drop_eq_nil_of_le (by rw [hL.out]; omega), List.append_nil] at this
theorem heldEventS_any (B n c : Nat) (A : Option Addr) (k : Int) (hn : n ≤ 2000000) (hk0 : 0 ≤ k) (hk : k ≤ 20000000000) (w : World) (hr : Rd3 w B A (marks k n)) :
  Calls Try.prog 85 #[.slice A n c, .int .i64 k] w fun e w' => e = .returned (.int .i64 (k + 3 * n)) ∧ w = w' := by
 have hR := hid hr
 clear hr
 go_enter Try.func85, Try.ntmps85
 go_wp2
 go_loop [1, 5] (fun v i => ∃ (j : Nat) (m : Int), j ≤ n ∧ i = .int .i64 j ∧ v = .int .i64 m ∧ 0 ≤ m ∧ m ≤ 20000000000 + 3 * j ∧ Hid (m = k + 3 * j)) (fun _ i => n - (intOf i).toNat)
 case atStart => exact ⟨0, k, Nat.zero_le _, rfl, rfl, hk0, by omega, hid (by omega)⟩
 case round =>
  obtain ⟨j, m, hj, rfl, rfl, m0, m1, hM⟩ := hrel
  have m2 : m ≤ 27000000000 := by omega
  by_cases hlt : j < n
  ·have hs := marks_at k n j hlt
   rw [← hM.out] at hs
   obtain ⟨ad, rfl, hab, h0, h1, h2⟩ := hR.out j _ hs
   clear hs
   dsimp only [mkTr] at h0 h1 h2
   go_wp2
   go_round
   case rel => exact ⟨j + 1, m + 1 + 1 + 1, by omega, by go_num, rfl, by omega, by omega, hid (by rw [hM.out]; omega)⟩
   case measure => simp [intOf]; omega
  ·obtain rfl : j = n := by omega
   go_wp2
   go_ret
   exact ⟨by rw [hM.out]; rfl, rfl⟩
def oval (k v : Int) (tv : Value) (s : Int) : Value := .agg #[.int .i64 k, .int .i64 v, tv, .int .i64 s]
theorem eqOutcome_same (B : Nat) (A A' : Option Addr) (n c c' : Nat) (xs : List Tr) (k v s : Int) (hn : n ≤ 9223372036854775807) (hl : xs.length = n) (w : World) (hr : Rd3 w B A xs) (hr' : Rd3 w B A' xs) (hB : B ≤ w.heap.size) :
  Calls Try.prog 35 #[.agg #[.int .i64 k, .int .i64 v, .slice A n c, .int .i64 s], .agg #[.int .i64 k, .int .i64 v, .slice A' n c', .int .i64 s]] w fun e w' => e = .returned (.bool true) ∧ Below w.heap.size w w' := by
 have hR := hid hr
 have hR' := hid hr'
 have hL := hid hl
 clear hr hr' hl
 have hb0 : ∀ o o' : Obj, Below w.heap.size w ((w.alloc o).alloc o') := fun o o' => ((Below.refl _ _).alloc (Nat.le_refl _) _).alloc (by simp) _
 go_enter Try.func35, Try.ntmps35
 go_wp2_with fail
 refine (eqEventS_same B A A' n c c' xs hn hL.out _ (by exact hR.out.below ((hb0 _ _).mono hB)) (by exact hR'.out.below ((hb0 _ _).mono hB)) (by exact Nat.le_trans hB (hb0 _ _).size)).mono ?_
 rintro e w1 ⟨rfl, hb1⟩
 have z3 : w1.cell? ⟨w.heap.size, 3, none⟩ = some (.int .i64 s) := (Blk.below (heap2_0 w (.cells #[.int .i64 k, .int .i64 v, .slice A n c, .int .i64 s] 56) (.cells #[.int .i64 k, .int .i64 v, .slice A' n c', .int .i64 s] 56)) hb1 (by simp <;> omega)).cells 3
 have z3' : w1.cell? ⟨w.heap.size + 1, 3, none⟩ = some (.int .i64 s) := (Blk.below (heap2_1 w (.cells #[.int .i64 k, .int .i64 v, .slice A n c, .int .i64 s] 56) (.cells #[.int .i64 k, .int .i64 v, .slice A' n c', .int .i64 s] 56)) hb1 (by simp)).cells 3
 go_wp2_with fail
 go_ret
 exact ⟨rfl, (hb0 _ _).trans (hb1.mono (hb0 _ _).size)⟩
theorem markOutcome_any (B n c : Nat) (A : Option Addr) (xs : List Tr) (k v s m : Int) (hn : n ≤ 2000000) (hl : xs.length = n) (hk0 : 0 ≤ m) (hk : m ≤ 20000000000) (w : World)
  (ho : w.ownsRow B 94 3 (.slice A n c) n (cells3 xs)) :
  Calls Try.prog 36 #[.agg #[.int .i64 k, .int .i64 v, .slice A n c, .int .i64 s], .int .i64 m] w (MarkedE B n c A m w) := by
 have hO0 := hid ho
 have h1 : ∀ o : Obj, Below w.heap.size w (w.alloc o) := fun o => (Below.refl _ _).alloc (Nat.le_refl _) _
 have H1 := hid h1
 clear ho h1
 go_enter Try.func36, Try.ntmps36
 go_wp2_with fail
 refine (markEventS_any B n c A xs m hn hl hk0 hk _ (own_below hO0.out (H1.out _) (Nat.le_refl _))).mono ?_
 rintro e w1 ⟨rfl, o1, c1⟩
 go_wp2_with fail
 go_ret
 exact ⟨rfl, o1, (Chg.of_below (H1.out _)).trans c1 (fun _ _ h => h)⟩
theorem heldOutcome_any (B n c : Nat) (A : Option Addr) (k v s m : Int) (hn : n ≤ 2000000) (hk0 : 0 ≤ m) (hk : m ≤ 20000000000) (w : World) (hB : B ≤ w.heap.size) (hr : Rd3 w B A (marks m n)) :
  Calls Try.prog 37 #[.agg #[.int .i64 k, .int .i64 v, .slice A n c, .int .i64 s], .int .i64 m] w fun e w' => e = .returned (.int .i64 (m + 3 * n)) ∧ Below w.heap.size w w' := by
 have hR := hid hr
 have h1 : ∀ o : Obj, Below w.heap.size w (w.alloc o) := fun o => (Below.refl _ _).alloc (Nat.le_refl _) _
 have H1 := hid h1
 have hneg : ¬ (m + 3 * (n : Int)) < 0 := by omega
 clear hr h1
 generalize hq : m + 3 * (n : Int) = q at *
 have HQ := hid hq
 clear hq
 go_enter Try.func37, Try.ntmps37
 go_wp2_with fail
 refine (heldEventS_any B n c A m hn hk0 hk _ (hR.out.below ((H1.out _).mono hB))).mono ?_
 rintro e w1 ⟨rfl, rfl⟩
 rw [HQ.out]
 go_wp2_with fail
 go_ret
 exact ⟨rfl, H1.out _⟩
end Go.Proofs.Ythejnpignlhgiaa.EvtP

namespace Go.Proofs.Ythejnpignlhgiaa.LawO
open Go.ChangeShapes Go.WideShapes Go.ChangeAt Go.RowKit
open PL Mem To MarkP Srun EvtP Sout
def OwnEH (w : World) (lo hi : Nat) (v : Value) (xs : List Tr) : Prop := Tre w lo v xs ∧ ∀ k, v.ownBlock = some k → k < hi
theorem OwnEH.of {w : World} {lo : Nat} {v : Value} {xs : List Tr} (h : Tre w lo v xs) : OwnEH w lo w.heap.size v xs := ⟨h, fun k hk => (World.ownsRow.lt h k hk).2⟩
theorem OwnEH.keep {w w' : World} {lo hi : Nat} {v : Value} {xs : List Tr} (h : OwnEH w lo hi v xs) (hk : ∀ b, lo ≤ b → b < hi → w'.heap[b]? = w.heap[b]?) : OwnEH w' lo hi v xs := by
 obtain ⟨⟨h1, h2⟩, hh⟩ := h
 refine ⟨⟨h1, ?_⟩, hh⟩
 rcases h2 with h0 | ⟨g, cap, cur, rfl, hB, hg, r⟩
 ·exact .inl h0
 ·exact .inr ⟨g, cap, cur, rfl, hB, by rw [hk g hB (hh g rfl)]; exact hg, r⟩
theorem OwnEH.below {w w' : World} {lo hi : Nat} {v : Value} {xs : List Tr} (h : OwnEH w lo hi v xs) (hb : Below hi w w') : OwnEH w' lo hi v xs := h.keep fun b _ hb' => hb.block b hb'
theorem OwnEH.chg {C : Nat → Prop} {w w' : World} {lo hi : Nat} {v : Value} {xs : List Tr} (h : OwnEH w lo hi v xs) (hb : Chg C w w') (hh : hi ≤ w.heap.size) (hC : ∀ k, lo ≤ k → k < hi → ¬ C k) : OwnEH w' lo hi v xs :=
 h.keep fun b h1 h2 => hb.block b (by omega) (hC b h1 h2)
theorem Tre.row {w : World} {lo m c : Nat} {A : Option Addr} {q : List Tr} (h : Tre w lo (.slice A m c) q) (hm : q.length = m) : w.ownsRow lo 94 3 (.slice A m c) m (cells3 q) := by
 unfold Tre at h
 rwa [hm] at h
theorem Tre.rd {w : World} {lo m c : Nat} {A : Option Addr} {q : List Tr} (h : Tre w lo (.slice A m c) q) (hm : q.length = m) : Rd3 w w.heap.size A q := rd_own (Tre.row h hm)
structure StO (w : World) (n c : Nat) (A : Option Addr) (wb bx gb : Nat) (ok ov os : Int) (vw vx vg : Value) (Lw Hw Lx Hx Lg Hg : Nat) (qw : List Tr) (px : Pg) (qg : List Tr) (W : World) : Prop where
 below : Below w.heap.size w W
 a : Blk W w.heap.size 24 #[.slice A n c]
 wbx : Blk W wb 56 #[.int .i64 ok, .int .i64 ov, vw, .int .i64 os]
 x0 : Blk W bx 35 #[vx]
 gbx : Blk W gb 56 #[.int .i64 ok, .int .i64 ov, vg, .int .i64 os]
 ow : OwnEH W Lw Hw vw qw
 ox : OwnH W Lx Hx vx px
 og : OwnEH W Lg Hg vg qg
 ord : w.heap.size < Lw ∧ Lw ≤ Hw ∧ Hw ≤ wb ∧ wb < Lx ∧ Lx ≤ Hx ∧ Hx ≤ bx ∧ bx < Lg ∧ Lg ≤ Hg ∧ Hg ≤ gb ∧ gb < W.heap.size
section
variable {w : World} {n c : Nat} {A : Option Addr} {wb bx gb : Nat} {ok ov os : Int} {vw vx vg : Value} {Lw Hw Lx Hx Lg Hg : Nat} {qw : List Tr} {px : Pg} {qg : List Tr} {W W' : World}
theorem StO.next (h : StO w n c A wb bx gb ok ov os vw vx vg Lw Hw Lx Hx Lg Hg qw px qg W) (b : Below W.heap.size W W') : StO w n c A wb bx gb ok ov os vw vx vg Lw Hw Lx Hx Lg Hg qw px qg W' := by
 have o := h.ord
 have s := b.size
 exact ⟨h.below.trans (b.mono h.below.size), h.a.below b h.a.lt, h.wbx.below b h.wbx.lt, h.x0.below b h.x0.lt, h.gbx.below b h.gbx.lt, h.ow.below (b.mono (by omega)), h.ox.below (b.mono (by omega)), h.og.below (b.mono (by omega)), by omega⟩
theorem StO.cells (h : StO w n c A wb bx gb ok ov os vw vx vg Lw Hw Lx Hx Lg Hg qw px qg W) : W.cell? ⟨w.heap.size, 0, none⟩ = some (.slice A n c) ∧ W.cell? ⟨bx, 0, none⟩ = some vx ∧
  (W.cell? ⟨wb, 0, none⟩ = some (.int .i64 ok) ∧ W.cell? ⟨wb, 1, none⟩ = some (.int .i64 ov) ∧ W.cell? ⟨wb, 2, none⟩ = some vw ∧ W.cell? ⟨wb, 3, none⟩ = some (.int .i64 os)) ∧
  (W.cell? ⟨gb, 0, none⟩ = some (.int .i64 ok) ∧ W.cell? ⟨gb, 1, none⟩ = some (.int .i64 ov) ∧ W.cell? ⟨gb, 2, none⟩ = some vg ∧ W.cell? ⟨gb, 3, none⟩ = some (.int .i64 os)) :=
 ⟨h.a.cells 0, h.x0.cells 0, ⟨h.wbx.cells 0, h.wbx.cells 1, h.wbx.cells 2, h.wbx.cells 3⟩, ⟨h.gbx.cells 0, h.gbx.cells 1, h.gbx.cells 2, h.gbx.cells 3⟩⟩
theorem StO.markX {px' : Pg} (h : StO w n c A wb bx gb ok ov os vw vx vg Lw Hw Lx Hx Lg Hg qw px qg W) (b : Chg (fun k => Lx ≤ k ∧ k < Hx) W W') (o' : OwnH W' Lx Hx vx px') : StO w n c A wb bx gb ok ov os vw vx vg Lw Hw Lx Hx Lg Hg qw px' qg W' := by
 have o := h.ord
 have s := b.size
 have s0 := h.below.size
 exact ⟨h.below.trans (b.below (by omega) (fun x hx hc => by omega)), h.a.chg b (fun hc => by omega), h.wbx.chg b (fun hc => by omega), h.x0.chg b (fun hc => by omega), h.gbx.chg b (fun hc => by omega),
  h.ow.chg b (by omega) (fun k h1 h2 hc => by omega), o', h.og.chg b (by omega) (fun k h1 h2 hc => by omega), by omega⟩
theorem StO.markG {qg' : List Tr} (h : StO w n c A wb bx gb ok ov os vw vx vg Lw Hw Lx Hx Lg Hg qw px qg W) (b : Chg (fun k => vg.ownBlock = some k) W W') (o' : Tre W' Lg vg qg') : StO w n c A wb bx gb ok ov os vw vx vg Lw Hw Lx Hx Lg Hg qw px qg' W' := by
 have o := h.ord
 have s := b.size
 have s0 := h.below.size
 have hg : ∀ k, vg.ownBlock = some k → Lg ≤ k ∧ k < Hg := fun k hk => ⟨(World.ownsRow.lt h.og.1 k hk).1, h.og.2 k hk⟩
 exact ⟨h.below.trans (b.below (by omega) (fun x hx hc => by have := hg x hc; omega)), h.a.chg b (fun hc => by have := hg _ hc; omega), h.wbx.chg b (fun hc => by have := hg _ hc; omega), h.x0.chg b (fun hc => by have := hg _ hc; omega), h.gbx.chg b (fun hc => by have := hg _ hc; omega),
  h.ow.chg b (by omega) (fun k h1 h2 hc => by have := hg k hc; omega), h.ox.chg b (by omega) (fun k h1 h2 hc => by have := hg k hc; omega), ⟨o', h.og.2⟩, by omega⟩
end
end Go.Proofs.Ythejnpignlhgiaa.LawO
