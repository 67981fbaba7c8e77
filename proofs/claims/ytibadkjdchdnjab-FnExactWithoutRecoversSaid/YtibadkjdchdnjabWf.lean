import Derived.Test.YtibadkjdchdnjabWs
set_option linter.all false
namespace Go.Proofs.Ytibadkjdchdnjab.Wf
open Go.ChangeShapes Go.WideShapes Go.ChangeAt Go.RowKit
open PL Mem Sst To MarkP Res Prg PrgS StpS IntsP DeferP DeferW Gua LawI Wr
theorem without_fits (p : Pg) : Fits (withoutR p).1 := by
 unfold withoutR
 split
 ·rename_i h
  obtain ⟨-, h6, h8⟩ := okProg_parts h
  refine ⟨by show (p.map bodyR).length ≤ 6; rw [List.length_map]; exact h6, fun xs hxs => ?_⟩
  obtain ⟨b, hb, rfl⟩ := List.mem_map.1 hxs
  obtain ⟨i, hi, rfl⟩ := List.getElem_of_mem hb
  have := (h8 i _ (List.getElem?_eq_getElem hi)).1
  unfold bodyR
  rw [List.length_map]
  omega
 ·exact Fits.nil
end Go.Proofs.Ytibadkjdchdnjab.Wf
-- squeezed
