import Derived.RangeFuncBox
import Derived.RangeFuncLeaves
import Derived.Shelf.Abstract
import Derived.WalkKit
import Derived.OwnWalkIn
import Derived.TacticsInMore
import Derived.LoopNIn
import Derived.LoopIn
import Derived.RangeFuncFrom
import Derived.Test.YtdmcgkcpclepfaaInts
set_option linter.all false
namespace Go.Proofs.Ytdmcgkcpclepfaa.Sqv
open Go.RowKit Go.Shelf
open PL Mem IntsP
attribute [local go_sem] Oper.semAt_some
set_option maxRecDepth 100000 in
set_option maxHeartbeats 4000000 in
theorem each_in (F : Fence) (n : Nat) (hf : F.fn 142) (hro : F.round = none) (hn : 1 ≤ n) (l Bs B m c : Nat) (A : Option Addr) (zs : List Int) (hm : zs.length = m) (hm2 : m ≤ 1000000) (J Jx : List Int → World → Prop)
  (hY : ∀ pre x W, J pre W → pre.length < m → YieldAt F (n - 1) Try.prog l #[.int .i64 x] W fun e W' => (e = .returned (.bool true) ∧ J (pre ++ [x]) W' ∧ Below B W W') ∨ (e = .returned (.bool false) ∧ Jx (pre ++ [x]) W'))
  (W : World) (hBs : W.cell? ⟨Bs, 0, none⟩ = some (.slice A m c)) (hr : RdI W B A zs) (h0 : J [] W) :
  CallsIn F n Try.prog 142 #[.func (.yield l) #[] #[], .pointer (some ⟨Bs, 0, none⟩)] W fun e W' => (∃ v, e = .returned v) ∧ ((∃ ys, ys = zs ∧ J ys W') ∨ ∃ pre, pre <+: zs ∧ Jx pre W') := by
 refine callsIn_of_wp Try.func142 rfl hf ?_ hro
 simp only [Try.ntmps142, List.size_toArray, List.length_cons, List.length_nil, Nat.reduceAdd, Nat.reduceSub, Array.replicate_succ, Array.replicate_zero, List.push_toArray, List.append_toArray, List.nil_append, List.cons_append]
 gi_wp2
 gi_loopw [7] (fun i wr => ∃ k : Nat, k ≤ m ∧ i = .int .i64 k ∧ J (zs.take k) wr ∧ Below B W wr) (fun i _ => m - (intOf i).toNat)
 case atStart => exact ⟨0, Nat.zero_le _, rfl, by rw [List.take_zero]; exact h0, Below.refl _ _⟩
 case round =>
  obtain ⟨k, hk, rfl, hJ, hb⟩ := hrel
  by_cases hkm : k < m
  ·obtain ⟨x, hx⟩ : ∃ x, zs[k]? = some x := ⟨_, List.getElem?_eq_getElem (by omega)⟩
   obtain ⟨ad, rfl, hab, hc⟩ := (hr.below hb) k x hx
   have hT : zs.take (k + 1) = zs.take k ++ [x] := by rw [List.take_add_one, hx]; rfl
   obtain ⟨fn, tmps, assign, body, hy, hR⟩ := hY (zs.take k) x wr hJ (by rw [List.length_take]; omega)
   gi_wp2
   refine hR.mono ?_
   rintro e W3 (⟨rfl, hJ3, hk3⟩ | ⟨rfl, hJ3⟩)
   ·gi_wp2
    go_roundw
    case rel => exact ⟨k + 1, by omega, by go_num, by rw [hT]; exact hJ3, hb.trans hk3⟩
    case measure => simp [intOf]; omega
   ·gi_wp2
    refine bodyPost_ret (results_none rfl _ _ _) rfl ?_
    exact ⟨⟨_, rfl⟩, .inr ⟨_, List.take_prefix (k + 1) zs, by rw [hT]; exact hJ3⟩⟩
  ·obtain rfl : k = m := by omega
   rw [List.take_of_length_le (by omega)] at hJ
   gi_wp2
   go_end0
   exact ⟨⟨_, rfl⟩, .inl ⟨_, rfl, hJ⟩⟩
theorem stops (F : Fence) (n : Nat) (hf : F.fn 142) (hro : F.round = none) (hn : 1 ≤ n) (Bs B m c : Nat) (A : Option Addr) (zs : List Int) (hm : zs.length = m) (hm2 : m ≤ 1000000) (w : World) (hlt : Bs < w.heap.size) (hB : B ≤ w.heap.size)
  (hBs : w.cell? ⟨Bs, 0, none⟩ = some (.slice A m c)) (hr : RdI w B A zs) :
  SeqStopsK F n Try.prog 142 #[.pointer (some ⟨Bs, 0, none⟩)] (fun x : Int => #[Value.int .i64 x]) (Below B) (fun ys => ys = zs) (fun pre => pre <+: zs) m w := fun l J Jx W hW _ _ hY h0 =>
 each_in F n hf hro hn l Bs B m c A zs hm hm2 J Jx hY W ((hW.cell (p := ⟨Bs, 0, none⟩) hlt).trans hBs) (hr.below (hW.mono hB)) h0
end Go.Proofs.Ytdmcgkcpclepfaa.Sqv
-- squeezed
