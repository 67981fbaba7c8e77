/- What spec.PruneErrors's errors are bounded by. -/
import Derived.Test.YtkjgibhckcdneaaErqn
import Derived.Test.YtkjgibhckcdneaaErwr
namespace Go.Proofs.Ytkjgibhckcdneaa.ErQ
open Mem IntsP ErP ErM ErT ErA ErU ErD ErW ErL ErF

theorem prune_fits (p : Er) (x : Int) : FitsE (pruneR p x).1 := by
  unfold pruneR
  cases hfn : oneE p x with
  | false => exact fits_nil
  | true =>
    obtain ⟨x0, sx, rfl, hxn, hxx, hok, hn12⟩ := oneE_at hfn
    refine ⟨?_, fun i s hs => ?_⟩
    · show (prunedE p _ p.length).length ≤ 12
      rw [pruned_len]
      exact Nat.le_trans (rk_le _ _) hn12
    · have hm : s ∈ prunedE p (waysE p (x0 : Int).toNat) p.length := List.mem_of_getElem? hs
      unfold prunedE at hm
      obtain ⟨k, hk, rfl⟩ := List.mem_map.1 hm
      have hkl : k < p.length := List.mem_range.1 (List.mem_filter.1 hk).1
      show ((nodeE p k).2.2.map _).length ≤ 12
      rw [List.length_map, nodeE_at (List.getElem?_eq_getElem hkl)]
      exact ok_many hok (List.getElem?_eq_getElem hkl)
end Go.Proofs.Ytkjgibhckcdneaa.ErQ
