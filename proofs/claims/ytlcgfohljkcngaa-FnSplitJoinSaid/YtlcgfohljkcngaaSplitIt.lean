/- What the program's own iterator over the parts of a string hands on: all parts in order, for every loop body that leaves its two captured cells alone; for every string of at most 1048576 bytes. -/
import Derived.RangeFuncNested
import Derived.RangeFuncBox
import Derived.RangeFuncLeaves
import Derived.Shelf.Abstract
import Derived.Shelf.RegionOpen
import Derived.WalkKit
import Derived.OwnWalkIn
import Derived.TacticsInMore
import Derived.LoopNIn
import Derived.LoopIn
import Derived.Maps.AppendAt
import Derived.Sort.QuietIn
import Derived.Lib.Hide
import Derived.WalkSpells
import Derived.Test.YtlcgfohljkcngaaRows
import Derived.Test.YtlcgfohljkcngaaSplitPlain
namespace Go.Proofs.Ytlcgfohljkcngaa.SplitIt
open Go.RowKit Go.Shelf
open SplitPlain
attribute [local go_sem] Oper.semAt_some
/-- What a round keeps: the two captured cells. -/
def Kp (Bs Bb : Nat) (A B : World) : Prop := B.cell? ⟨Bs, 0, none⟩ = A.cell? ⟨Bs, 0, none⟩ ∧ B.cell? ⟨Bb, 0, none⟩ = A.cell? ⟨Bb, 0, none⟩
theorem kp_t {Bs Bb : Nat} {A B C : World} (h : Kp Bs Bb A B) (k : Kp Bs Bb B C) : Kp Bs Bb A C := ⟨k.1.trans h.1, k.2.trans h.2⟩
theorem jdrew {B : Nat} {J : List ByteArray → World → Prop} {xs : List ByteArray} {W : World} (hJ : AbidesFrom B J) (n : Nat) (h : J xs W) : J xs (W.drewN n) :=
  hJ xs W _ none h ⟨rfl, rfl, rfl, Nat.le_refl _, fun _ _ _ => rfl⟩ (fun r e => by cases e)
set_option maxRecDepth 100000 in
set_option maxHeartbeats 2000000 in
theorem it_in (n : Nat) (hn : 1 ≤ n) (l Bs Bb : Nat) (s : ByteArray) (hs : s.size ≤ 1048576) (b : UInt8) (J Jx : List ByteArray → World → Prop) (W : World)
    (hJ : AbidesFrom W.heap.size J)
    (hY : ∀ pre x W1, J pre W1 → pre.length < s.size + 1 → YieldAt Fence.wide (n - 1) Try.prog l #[.string x] W1 fun e W' =>
      (e = .returned (.bool true) ∧ J (pre ++ [x]) W' ∧ Kp Bs Bb W1 W') ∨ (e = .returned (.bool false) ∧ Jx (pre ++ [x]) W'))
    (hcs : W.cell? ⟨Bs, 0, none⟩ = some (.string s)) (hcb : W.cell? ⟨Bb, 0, none⟩ = some (.int .u8 b.toNat)) (h0 : J [] W) :
    CallsIn Fence.wide n Try.prog 36 #[.func (.yield l) #[] #[], .pointer (some ⟨Bs, 0, none⟩), .pointer (some ⟨Bb, 0, none⟩)] W fun e W' => (∃ v, e = .returned v) ∧
      ((∃ ys, ys = parts s b ∧ J ys W') ∨ (∃ pre, True ∧ Jx pre W')) := by
  refine callsIn_of_wp Try.func36 rfl trivial ?_ rfl
  simp only [Try.ntmps36, List.size_toArray, List.length_cons, List.length_nil, Nat.reduceAdd, Nat.reduceSub, Array.replicate_succ, Array.replicate_zero, List.push_toArray, List.append_toArray, List.nil_append, List.cons_append]
  gi_wp2
  gi_loopw [4, 8] (fun f i wr => ∃ k : Nat, k ≤ s.size ∧ i = .int .i64 k ∧ f = .int .i64 (cutAt s b k).1 ∧ J (cutAt s b k).2 wr ∧ Kp Bs Bb W wr)
    (fun _ i _ => s.size - (intOf i).toNat)
  case atStart => exact ⟨0, Nat.zero_le _, rfl, rfl, h0, rfl, rfl⟩
  case round =>
    obtain ⟨k, hk, rfl, rfl, hJs, hkp⟩ := hrel
    have hfl := from_le s b k
    have hcl := count_le s b k
    have c1 : wr.cell? ⟨Bs, 0, none⟩ = some (.string s) := hkp.1.trans hcs
    have c2 : wr.cell? ⟨Bb, 0, none⟩ = some (.int .u8 b.toNat) := hkp.2.trans hcb
    by_cases hlt : k < s.size
    · by_cases hb : s[k] = b
      · have hcut := Lib.hid (cut_yes s b k hlt hb)
        have ht := byte_yes _ _ hb
        clear hb
        generalize hc : cutAt s b k = c at *
        have hc' := Lib.hid hc
        clear hc
        obtain ⟨f, xs⟩ := c
        dsimp only at hcut hJs hfl hcl
        gi_wp2
        gi_quiet (fail)
        have hJq := jdrew hJ nq hJs
        obtain ⟨fn, tmps, assign, body, hy, hR⟩ := hY xs (s.extract f k) _ hJq (by omega)
        gi_wp2
        refine hR.mono ?_
        rintro e W3 (⟨rfl, hJ3, hk3⟩ | ⟨rfl, hJx3⟩)
        · have hk4 := kp_t hkp (show Kp Bs Bb wr W3 from hk3)
          gi_wp2
          go_roundw
          case rel => exact ⟨k + 1, by omega, by go_num, by rw [hcut.out]; go_num, by rw [hcut.out]; exact hJ3, hk4⟩
          case measure => simp [intOf]; omega
        · gi_wp2
          refine bodyPost_ret (results_none rfl _ _ _) rfl ?_
          exact ⟨⟨_, rfl⟩, .inr ⟨_, trivial, hJx3⟩⟩
      · have hcut := Lib.hid (cut_no s b k hlt hb)
        have ht := byte_no _ _ hb
        clear hb
        gi_wp2
        gi_quiet (fail)
        gi_wp2
        go_roundw
        case rel => exact ⟨k + 1, by omega, by go_num, by rw [hcut.out], by rw [hcut.out]; exact jdrew hJ nq hJs, hkp⟩
        case measure => simp [intOf]; omega
    · obtain rfl : k = s.size := by omega
      have hpa : Hid (parts s b = (cutAt s b s.size).2 ++ [s.extract (cutAt s b s.size).1 s.size]) := Lib.hid rfl
      generalize hc : cutAt s b s.size = c at *
      have hc' := Lib.hid hc
      clear hc
      obtain ⟨f, xs⟩ := c
      dsimp only at hpa hJs hfl hcl
      obtain ⟨fn, tmps, assign, body, hy, hR⟩ := hY xs (s.extract f s.size) _ hJs (by omega)
      gi_wp2
      refine hR.mono ?_
      rintro e W3 (⟨rfl, hJ3, hk3⟩ | ⟨rfl, hJx3⟩)
      · gi_wp2
        go_end0
        exact ⟨⟨_, rfl⟩, .inl ⟨_, hpa.out.symm, hJ3⟩⟩
      · gi_wp2
        go_end0
        exact ⟨⟨_, rfl⟩, .inr ⟨_, trivial, hJx3⟩⟩
/-- The iterator's contract: all parts, in order. -/
theorem it_stops (n : Nat) (hn : 1 ≤ n) (Bs Bb : Nat) (s : ByteArray) (hs : s.size ≤ 1048576) (b : UInt8) (w : World) (h1 : Bs < w.heap.size) (h2 : Bb < w.heap.size)
    (hcs : w.cell? ⟨Bs, 0, none⟩ = some (.string s)) (hcb : w.cell? ⟨Bb, 0, none⟩ = some (.int .u8 b.toNat)) :
    SeqStopsK Fence.wide n Try.prog 36 #[.pointer (some ⟨Bs, 0, none⟩), .pointer (some ⟨Bb, 0, none⟩)] (fun x : ByteArray => #[Value.string x]) (Kp Bs Bb) (fun ys => ys = parts s b) (fun _ => True) (s.size + 1) w := fun l J Jx W hW hJ _ hY h0 =>
  it_in n hn l Bs Bb s hs b J Jx W hJ hY ((hW.cell (p := ⟨Bs, 0, none⟩) h1).trans hcs) ((hW.cell (p := ⟨Bb, 0, none⟩) h2).trans hcb) h0
/-- The maker of the iterator: both arguments are boxed. -/
theorem partsOf_in (n : Nat) (s : ByteArray) (b : UInt8) (w : World) :
    CallsIn Fence.wide n Try.prog 27 #[.string s, .int .u8 b.toNat] w fun e w' => e = .returned (.func (.func 36) #[] #[.pointer (some ⟨w.heap.size, 0, none⟩), .pointer (some ⟨w.heap.size + 1, 0, none⟩)]) ∧ w' = (w.alloc (.cells #[.string s] 9)).alloc (.cells #[.int .u8 b.toNat] 5) := by
  refine callsIn_of_wp Try.func27 rfl trivial ?_ rfl
  simp only [Try.ntmps27, List.size_toArray, List.length_cons, List.length_nil, Nat.reduceAdd, Nat.reduceSub, Array.replicate_succ, Array.replicate_zero, List.push_toArray, List.append_toArray, List.nil_append, List.cons_append]
  gi_wp2
  go_ret
  exact ⟨rfl, rfl⟩
end Go.Proofs.Ytlcgfohljkcngaa.SplitIt
