/- What the model's reader of choices returns: numbers in range, and texts out of its lists; it writes into its own cells alone. -/
import Derived.Test.YtlcgfohljkcngaaDoorRows
import Derived.WalkKit
import Derived.ProofKit
import Derived.Lib.Hide
import Derived.WalkSpells
import Derived.Deep.QuietTactic
import Derived.BigQuiet
import Derived.OneCell
namespace Go.Proofs.YtlcgfohljkcngaaDoor.Cur
open Go.ChangeShapes Go.WideShapes Go.ChangeAt Go.RowKit
/-- The bytes that came in: nil or empty, or cells in a block below the reader's. -/
def CodeIn (w : World) (bc : Nat) (ca : Option Addr) (n : Nat) : Prop := n ≤ 65536 ∧ (n = 0 ∨ ∃ b off, ca = some ⟨b, off, none⟩ ∧ b < bc ∧ ∀ j, j < n → ∃ z : Int, 0 ≤ z ∧ z ≤ 255 ∧ w.cell? ⟨b, off + j, none⟩ = some (.int .u8 z))
/-- The reader: its block holds the bytes, a place of at most m, and a seed. -/
def Reads (w : World) (bc : Nat) (ca : Option Addr) (n cc m : Nat) : Prop := ∃ (k : Nat) (sd : Int), k ≤ m ∧ 0 ≤ sd ∧ sd < 18446744073709551616 ∧ w.heap[bc]? = some (.cells #[.slice ca n cc, .int .i64 k, .int .u64 sd] 37 (0, 0)) ∧ CodeIn w bc ca n
/-- What a call of 'next' leaves of the world. -/
def Left (w w' : World) (bc : Nat) (ca : Option Addr) (n cc k : Nat) : Prop := w.grownBy w' (some bc) ∧ ∃ sd : Int, 0 ≤ sd ∧ sd < 18446744073709551616 ∧ w'.heap[bc]? = some (.cells #[.slice ca n cc, .int .i64 k, .int .u64 sd] 37 (0, 0))
theorem left_of (w : World) (bc : Nat) (ca : Option Addr) (n cc k : Nat) (x : Value) (sd0 sd : Int) (h0 : 0 ≤ sd) (h1 : sd < 18446744073709551616) (hb : w.heap[bc]? = some (.cells #[.slice ca n cc, x, .int .u64 sd0] 37 (0, 0))) (p q : Nat) :
    Left w ((((w.drewN p).setCell ⟨bc, 1, none⟩ (.int .i64 ((k : Int) + 1))).setCell ⟨bc, 2, none⟩ (.int .u64 sd)).drewN q) bc ca n cc (k + 1) := by
  have e1 := heap_setCell_same (w.drewN p) bc 1 _ 37 (.int .i64 ((k : Int) + 1)) hb
  have e2 := heap_setCell_same _ bc 2 _ 37 (.int .u64 sd) e1
  refine ⟨⟨rfl, rfl, rfl, by simp [World.setCell, World.drewN], fun j hj hne => ?_⟩, sd, h0, h1, by simpa using e2⟩
  have hj' : j ≠ bc := fun e => hne (by rw [e])
  show (((w.drewN p).setCell ⟨bc, 1, none⟩ (.int .i64 ((k : Int) + 1))).setCell ⟨bc, 2, none⟩ (.int .u64 sd)).heap[j]? = _
  rw [Below.heap_setCell _ _ _ _ hj', Below.heap_setCell _ _ _ _ hj']
  rfl
theorem u64_bd (x : Int) : 0 ≤ IntKind.u64.wrap x ∧ IntKind.u64.wrap x < 18446744073709551616 := by
  have h := wrap_within .u64 x
  simp [IntKind.min, IntKind.max, IntKind.signed, IntKind.bits] at h
  omega
theorem and255 (x : Int) (h0 : 0 ≤ x) (h1 : x < 16777216) : bits .and .u64 x 255 = x % 256 := by
  have h := bits_mask .u64 24 (by decide) (fun n a b => IntWalk.u64_in n (by omega)) 8 (by decide) x h0 (by simpa using h1)
  simpa using h
theorem and255_bd (y : Int) : 0 ≤ wrap64 (bits .and .u64 (IntKind.u64.wrap y / 1099511627776) 255) ∧ wrap64 (bits .and .u64 (IntKind.u64.wrap y / 1099511627776) 255) ≤ 255 := by
  have h := u64_bd y
  rw [and255 _ (by omega) (by omega), IntWalk.wrap64_in _ (by omega)]
  omega
set_option maxHeartbeats 1000000 in
theorem next_in (w : World) (bc n cc k b off : Nat) (sd : Int) (hk : k < n) (hn : n ≤ 65536) (hb : w.heap[bc]? = some (.cells #[.slice (some ⟨b, off, none⟩) n cc, .int .i64 k, .int .u64 sd] 37 (0, 0))) (z : Int) (hz0 : 0 ≤ z) (hz1 : z ≤ 255) (hz : w.cell? ⟨b, off + k, none⟩ = some (.int .u8 z)) :
    Calls Tryd.prog 37 #[.pointer (some ⟨bc, 0, none⟩)] w fun e w' => e = .returned (.int .i64 z) ∧ Left w w' bc (some ⟨b, off, none⟩) n cc (k + 1) := by
  have c0 : w.cell? ⟨bc, 0, none⟩ = some (.slice (some ⟨b, off, none⟩) n cc) := by simp [World.cell?, hb]
  have c1 : w.cell? ⟨bc, 1, none⟩ = some (.int .i64 k) := by simp [World.cell?, hb]
  have c2 : w.cell? ⟨bc, 2, none⟩ = some (.int .u64 sd) := by simp [World.cell?, hb]
  have f1 : w.frozen? ⟨bc, 1, none⟩ = false := by simp [World.frozen?, hb]
  have f2 : w.frozen? ⟨bc, 2, none⟩ = false := by simp [World.frozen?, hb]
  have hB := Lib.hid hb
  clear hb
  go_enter Tryd.func37, Tryd.ntmps37
  go_wp2
  go_quiet (fail)
  go_wp2
  go_quiet (fail)
  go_wp2
  go_quiet (fail)
  go_wp2
  go_ret
  refine ⟨rfl, ?_⟩
  exact left_of w bc _ n cc k _ sd _ (u64_bd _).1 (u64_bd _).2 hB.out _ _
set_option maxHeartbeats 1000000 in
theorem next_out (w : World) (bc n cc k : Nat) (ca : Option Addr) (sd : Int) (hk : n ≤ k) (hk2 : k ≤ 1000000) (hb : w.heap[bc]? = some (.cells #[.slice ca n cc, .int .i64 k, .int .u64 sd] 37 (0, 0))) :
    Calls Tryd.prog 37 #[.pointer (some ⟨bc, 0, none⟩)] w fun e w' => (∃ z : Int, 0 ≤ z ∧ z ≤ 255 ∧ e = .returned (.int .i64 z)) ∧ Left w w' bc ca n cc (k + 1) := by
  have c0 : w.cell? ⟨bc, 0, none⟩ = some (.slice ca n cc) := by simp [World.cell?, hb]
  have c1 : w.cell? ⟨bc, 1, none⟩ = some (.int .i64 k) := by simp [World.cell?, hb]
  have c2 : w.cell? ⟨bc, 2, none⟩ = some (.int .u64 sd) := by simp [World.cell?, hb]
  have f1 : w.frozen? ⟨bc, 1, none⟩ = false := by simp [World.frozen?, hb]
  have f2 : w.frozen? ⟨bc, 2, none⟩ = false := by simp [World.frozen?, hb]
  have hB := Lib.hid hb
  clear hb
  go_enter Tryd.func37, Tryd.ntmps37
  go_wp2
  go_quiet (fail)
  go_wp2
  go_quiet (fail)
  go_wp2
  go_ret
  refine ⟨⟨_, ?_, ?_, rfl⟩, left_of w bc _ n cc k _ sd _ (u64_bd _).1 (u64_bd _).2 hB.out _ _⟩
  · exact (and255_bd _).1
  · exact (and255_bd _).2
theorem code_kept {w w' : World} {bc : Nat} {ca : Option Addr} {n : Nat} (h : CodeIn w bc ca n) (hbc : bc < w.heap.size) (hg : w.grownBy w' (some bc)) : CodeIn w' bc ca n := by
  refine ⟨h.1, ?_⟩
  rcases h.2 with h0 | ⟨b, off, e, hb, hc⟩
  · exact .inl h0
  · refine .inr ⟨b, off, e, hb, fun j hj => ?_⟩
    obtain ⟨z, z0, z1, hz⟩ := hc j hj
    exact ⟨z, z0, z1, (World.cell?_of_block (a := ⟨b, off + j, none⟩) (hg.block b (by omega) (fun e => by cases e; omega))).trans hz⟩
/-- The next choice: a number from 0 to 255. -/
theorem next_any (w : World) (bc n cc m : Nat) (ca : Option Addr) (hm : m ≤ 1000000) (h : Reads w bc ca n cc m) :
    Calls Tryd.prog 37 #[.pointer (some ⟨bc, 0, none⟩)] w fun e w' => (∃ z : Int, 0 ≤ z ∧ z ≤ 255 ∧ e = .returned (.int .i64 z)) ∧ Reads w' bc ca n cc (m + 1) ∧ w.grownBy w' (some bc) := by
  obtain ⟨k, sd, hk, s0, s1, hb, hc⟩ := h
  have hlt : bc < w.heap.size := (Array.getElem?_eq_some_iff.1 hb).1
  by_cases hkn : k < n
  · rcases hc.2 with h0 | ⟨b, off, rfl, hne, hcs⟩
    · omega
    · obtain ⟨z, z0, z1, hz⟩ := hcs k hkn
      refine (next_in w bc n cc k b off sd hkn hc.1 hb z z0 z1 hz).mono fun e w' ⟨he, hg, sd', a0, a1, hb'⟩ => ?_
      exact ⟨⟨z, z0, z1, he⟩, ⟨k + 1, sd', by omega, a0, a1, hb', code_kept hc hlt hg⟩, hg⟩
  · refine (next_out w bc n cc k ca sd (by omega) (by omega) hb).mono fun e w' ⟨he, hg, sd', a0, a1, hb'⟩ => ?_
    exact ⟨he, ⟨k + 1, sd', by omega, a0, a1, hb', code_kept hc hlt hg⟩, hg⟩
theorem grown_trans {a b c : World} {r : Option Nat} (h : a.grownBy b r) (k : b.grownBy c r) : a.grownBy c r :=
  ⟨k.os.trans h.os, k.tape.trans h.tape, k.output.trans h.output, Nat.le_trans h.size k.size, fun j hj hne => (k.block j (Nat.lt_of_lt_of_le hj h.size) hne).trans (h.block j hj hne)⟩
theorem reads_more {w : World} {bc n cc m m' : Nat} {ca : Option Addr} (h : Reads w bc ca n cc m) (hm : m ≤ m') : Reads w bc ca n cc m' := by
  obtain ⟨k, sd, hk, r⟩ := h
  exact ⟨k, sd, by omega, r⟩
/-- A choice out of q. -/
def Picks (w : World) (bc n cc m : Nat) (ca : Option Addr) (q : Int) (e : Ending) (w' : World) : Prop := (∃ z : Int, 0 ≤ z ∧ z < q ∧ e = .returned (.int .i64 z)) ∧ Reads w' bc ca n cc (m + 2) ∧ w.grownBy w' (some bc)
set_option maxHeartbeats 1000000 in
theorem pick_small (w : World) (bc n cc m : Nat) (ca : Option Addr) (hm : m ≤ 900000) (h : Reads w bc ca n cc m) (q : Int) (q0 : 1 < q) (q1 : q ≤ 200) :
    Calls Tryd.prog 22 #[.pointer (some ⟨bc, 0, none⟩), .int .i64 q] w (Picks w bc n cc m ca q) := by
  have hN := Lib.hid (next_any w bc n cc m ca (by omega) h)
  clear h
  go_enter Tryd.func22, Tryd.ntmps22
  go_wp2_with (go_at_call 37; refine hN.out.mono ?_; rintro e w' ⟨⟨z, z0, z1, rfl⟩, hr, hg⟩)
  go_ret
  exact ⟨⟨z % q, Int.emod_nonneg _ (by omega), Int.emod_lt_of_pos _ (by omega), rfl⟩, reads_more hr (by omega), hg⟩
set_option maxHeartbeats 1000000 in
theorem pick_big (w : World) (bc n cc m : Nat) (ca : Option Addr) (hm : m ≤ 900000) (h : Reads w bc ca n cc m) (q : Int) (q0 : 200 < q) (q1 : q ≤ 1000000) :
    Calls Tryd.prog 22 #[.pointer (some ⟨bc, 0, none⟩), .int .i64 q] w (Picks w bc n cc m ca q) := by
  have hN := Lib.hid (next_any w bc n cc m ca (by omega) h)
  have hN2 := Lib.hid (fun w1 (h1 : Reads w1 bc ca n cc (m + 1)) => next_any w1 bc n cc (m + 1) ca (by omega) h1)
  clear h
  go_enter Tryd.func22, Tryd.ntmps22
  go_wp2_with fail
  refine hN.out.mono ?_
  rintro e w1 ⟨⟨z, z0, z1, rfl⟩, hr, hg⟩
  have hR := Lib.hid hr
  clear hr
  go_wp2_with fail
  refine (hN2.out _ hR.out).mono ?_
  rintro e w2 ⟨⟨y, y0, y1, rfl⟩, hr2, hg2⟩
  go_wp2
  go_ret
  exact ⟨⟨(z * 256 + y) % q, by first | (apply Int.emod_nonneg; omega) | omega, Int.emod_lt_of_pos _ (by omega), rfl⟩, reads_more hr2 (by omega), grown_trans hg hg2⟩
theorem pick_any (w : World) (bc n cc m : Nat) (ca : Option Addr) (hm : m ≤ 900000) (h : Reads w bc ca n cc m) (q : Int) (q0 : 1 < q) (q1 : q ≤ 1000000) :
    Calls Tryd.prog 22 #[.pointer (some ⟨bc, 0, none⟩), .int .i64 q] w (Picks w bc n cc m ca q) := by
  by_cases hq : q ≤ 200
  · exact pick_small w bc n cc m ca hm h q q0 hq
  · exact pick_big w bc n cc m ca hm h q (by omega) q1
theorem one_any (w : World) (bc n cc m : Nat) (ca : Option Addr) (hm : m ≤ 900000) (h : Reads w bc ca n cc m) (q : Int) (q0 : 1 < q) (q1 : q ≤ 1000000) :
    Calls Tryd.prog 26 #[.pointer (some ⟨bc, 0, none⟩), .int .i64 q] w fun e w' => (∃ b : Bool, e = .returned (.bool b)) ∧ Reads w' bc ca n cc (m + 2) ∧ w.grownBy w' (some bc) := by
  have hP := Lib.hid (pick_any w bc n cc m ca hm h q q0 q1)
  clear h
  go_enter Tryd.func26, Tryd.ntmps26
  go_wp2_with (go_at_call 22; refine hP.out.mono ?_; rintro e w' ⟨⟨z, z0, z1, rfl⟩, hr, hg⟩)
  go_ret
  exact ⟨⟨_, rfl⟩, hr, hg⟩
/-- A text out of a list that lies in a block of its own. -/
theorem of_any (w : World) (bc n cc m : Nat) (ca : Option Addr) (hm : m ≤ 900000) (h : Reads w bc ca n cc m) (g N cap : Nat) (xs : List ByteArray) (hN : xs.length = N) (n0 : 1 < N) (n1 : N ≤ 1000) (hne : g ≠ bc) (hc : ∀ j x, xs[j]? = some x → w.cell? ⟨g, j, none⟩ = some (.string x)) :
    Calls Tryd.prog 27 #[.pointer (some ⟨bc, 0, none⟩), .slice (some ⟨g, 0, none⟩) N cap] w fun e w' => (∃ x, x ∈ xs ∧ e = .returned (.string x)) ∧ Reads w' bc ca n cc (m + 2) ∧ w.grownBy w' (some bc) := by
  have hP := Lib.hid (pick_any w bc n cc m ca hm h (N : Int) (by omega) (by omega))
  have hC := Lib.hid hc
  have hL := Lib.hid hN
  clear h hc hN
  go_enter Tryd.func27, Tryd.ntmps27
  go_wp2_with fail
  refine hP.out.mono ?_
  rintro e w1 ⟨⟨z, z0, z1, rfl⟩, hr, hg⟩
  obtain ⟨j, rfl⟩ := Int.eq_ofNat_of_zero_le z0
  have hj : j < xs.length := by rw [hL.out]; omega
  have hx : xs[j]? = some xs[j] := by simp
  have hcell : w1.cell? ⟨g, j, none⟩ = some (.string xs[j]) := by
    have h1 := hC.out j _ hx
    have hlt : g < w.heap.size := World.block_lt_of_cell? w _ h1
    exact (World.cell?_of_block (a := ⟨g, j, none⟩) (hg.block g hlt (fun e => by cases e; exact hne rfl))).trans h1
  have hm := Lib.hid (List.mem_of_getElem? hx)
  clear hx
  generalize xs[j] = x at *
  go_wp2
  go_ret
  exact ⟨⟨x, hm.out, rfl⟩, hr, hg⟩
def nine : List ByteArray := [⟨#[]⟩, ⟨#[97]⟩, ⟨#[97, 44, 98]⟩, ⟨#[115, 111, 109, 101, 32, 119, 111, 114, 100, 115]⟩, ⟨#[120, 35, 121]⟩, ⟨#[45, 49, 50]⟩, ⟨#[0, 255]⟩, ⟨#[44, 44]⟩, ⟨#[48]⟩]
theorem nine_size : ∀ x ∈ nine, x.size ≤ 10 := by decide
theorem list_cells (w : World) (xs : List ByteArray) (t : TypeId) : ∀ j x, xs[j]? = some x → (w.alloc (.cells (xs.map Value.string).toArray t)).cell? ⟨w.heap.size, j, none⟩ = some (.string x) := by
  intro j x h
  rw [World.cell?_alloc_new]
  simp [h]
theorem reads_alloc {w : World} {bc n cc m : Nat} {ca : Option Addr} (h : Reads w bc ca n cc m) (o : Obj) : Reads (w.alloc o) bc ca n cc m := by
  obtain ⟨k, sd, hk, s0, s1, hb, hc⟩ := h
  have hlt : bc < w.heap.size := (Array.getElem?_eq_some_iff.1 hb).1
  exact ⟨k, sd, hk, s0, s1, (Below.heap_alloc _ _ _ hlt).trans hb, code_kept hc hlt (World.grownBy_alloc w o _)⟩
/-- One of the nine texts. -/
theorem any1_any (w : World) (bc n cc m : Nat) (ca : Option Addr) (hm : m ≤ 900000) (h : Reads w bc ca n cc m) :
    Calls Tryd.prog 30 #[.pointer (some ⟨bc, 0, none⟩)] w fun e w' => (∃ x : ByteArray, x.size ≤ 10 ∧ e = .returned (.string x)) ∧ Reads w' bc ca n cc (m + 2) ∧ w.grownBy w' (some bc) := by
  have hlt : bc < w.heap.size := by obtain ⟨k, sd, _, _, _, hb, _⟩ := h; exact (Array.getElem?_eq_some_iff.1 hb).1
  have hO := Lib.hid (of_any (w.alloc (.cells (nine.map Value.string).toArray 9)) bc n cc m ca hm (reads_alloc h _) w.heap.size 9 9 nine rfl (by omega) (by omega) (by omega) (list_cells w nine 9))
  clear h
  go_enter Tryd.func30, Tryd.ntmps30
  go_wp2_with fail
  refine hO.out.mono ?_
  rintro e w' ⟨⟨x, hx, rfl⟩, hr, hg⟩
  have hs := nine_size x hx
  go_wp2
  go_ret
  exact ⟨⟨x, hs, rfl⟩, hr, grown_trans (World.grownBy_alloc w _ _) hg⟩
end Go.Proofs.YtlcgfohljkcngaaDoor.Cur
