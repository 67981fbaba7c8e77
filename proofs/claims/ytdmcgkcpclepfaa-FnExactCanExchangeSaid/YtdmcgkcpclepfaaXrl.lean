import Derived.Test.YtdmcgkcpclepfaaXri
import Derived.Test.YtdmcgkcpclepfaaGua
import Derived.Deep.AppendLies
set_option linter.all false
namespace Go.Proofs.Ytdmcgkcpclepfaa.Xrl
open Lib (hid)
open Go.ChangeShapes Go.WideShapes Go.ChangeAt Go.RowKit
open PL Mem Sst To AskP StpS Res PrgS IntsP LawI SetM Xcp Xpl Xrs Xri Gua
def upB (b : Nat → Bool) : Nat → List Int
 | 0 => []
 | j + 1 => if b j then upB b j ++ [(j : Int)] else upB b j
def f4 (b0 b1 b2 b3 : Bool) (j : Nat) : Bool := match j with | 0 => b0 | 1 => b1 | 2 => b2 | _ => b3
theorem upB_all (b0 b1 b2 b3 : Bool) : upB (f4 b0 b1 b2 b3) 4 = listB b0 b1 b2 b3 := by cases b0 <;> cases b1 <;> cases b2 <;> cases b3 <;> rfl
theorem upB_len (b : Nat → Bool) : ∀ j, (upB b j).length ≤ j
 | 0 => Nat.le_refl _
 | j + 1 => by
  have := upB_len b j
  rw [upB]
  split
  ·simp; omega
  ·omega
theorem ix0 (b0 b1 b2 b3 : Bool) (w : World) : (Instr.index 97 (.agg #[.bool b0, .bool b1, .bool b2, .bool b3]) (.int .i64 0)).run Try.prog w = .ok (.bool b0) w := by kernel_rfl
theorem ix1 (b0 b1 b2 b3 : Bool) (w : World) : (Instr.index 97 (.agg #[.bool b0, .bool b1, .bool b2, .bool b3]) (.int .i64 1)).run Try.prog w = .ok (.bool b1) w := by kernel_rfl
theorem ix2 (b0 b1 b2 b3 : Bool) (w : World) : (Instr.index 97 (.agg #[.bool b0, .bool b1, .bool b2, .bool b3]) (.int .i64 2)).run Try.prog w = .ok (.bool b2) w := by kernel_rfl
theorem ix3 (b0 b1 b2 b3 : Bool) (w : World) : (Instr.index 97 (.agg #[.bool b0, .bool b1, .bool b2, .bool b3]) (.int .i64 3)).run Try.prog w = .ok (.bool b3) w := by kernel_rfl
set_option maxRecDepth 100000 in
set_option maxHeartbeats 8000000 in
theorem list_any (b0 b1 b2 b3 : Bool) (w : World) :
  Calls Try.prog 105 #[.agg #[.bool b0, .bool b1, .bool b2, .bool b3]] w (LR (listB b0 b1 b2 b3) w) := by
 obtain ⟨i0, hi, hz0, hz1, hz2⟩ := info_parts infoInt
 have HALL := hid (upB_all b0 b1 b2 b3)
 have HF := hid (show f4 b0 b1 b2 b3 0 = b0 ∧ f4 b0 b1 b2 b3 1 = b1 ∧ f4 b0 b1 b2 b3 2 = b2 ∧ f4 b0 b1 b2 b3 3 = b3 from ⟨rfl, rfl, rfl, rfl⟩)
 generalize f4 b0 b1 b2 b3 = bf at *
 go_enter Try.func105, Try.ntmps105
 have HE := hid (fun o : Obj => (show OwnI ((w.alloc o).alloc (.cells #[] 3)) (w.heap.size + 1) (.slice (some ⟨w.heap.size + 1, 0, none⟩) 0 0) [] from App.empty_own (heap2_1 w _ _) (Nat.le_refl _)))
 have B2 := hid (fun o o' : Obj => (show Below w.heap.size w ((w.alloc o).alloc o') from App.Bl.alloc (App.Bl.alloc (App.Bl.refl _) _) _))
 have S2 := hid (fun o o' : Obj => (show w.heap.size + 1 ≤ ((w.alloc o).alloc o').heap.size by simp))
 go_wp2_with fail
 go_loopw [3, 8] (fun v i wr => ∃ (j : Nat) (A' : Option Addr) (c' : Nat), ((j = 0 ∧ i = .int .i64 0) ∨ (j = 1 ∧ i = .int .i64 1) ∨ (j = 2 ∧ i = .int .i64 2) ∨ (j = 3 ∧ i = .int .i64 3) ∨ (j = 4 ∧ i = .int .i64 4)) ∧ v = .slice A' (upB bf j).length c' ∧ OwnI wr (w.heap.size + 1) (.slice A' (upB bf j).length c') (upB bf j) ∧ Below w.heap.size w wr ∧ w.heap.size + 1 ≤ wr.heap.size) (fun _ i _ => 4 - (intOf i).toNat)
 case atStart => exact ⟨0, _, _, .inl ⟨rfl, rfl⟩, rfl, HE.out _, B2.out _ _, S2.out _ _⟩
 case round =>
  obtain ⟨j, A', c', hj, rfl, hown, hb, hsz⟩ := hrel
  clear HE B2 S2
  have HB := hid hb
  have O := hid hown
  have hle := upB_len bf j
  have HX : Hid (upB bf (j + 1) = if bf j then upB bf j ++ [(j : Int)] else upB bf j) := hid rfl
  obtain ⟨bj, hbj⟩ : ∃ bj, bf j = bj := ⟨_, rfl⟩
  obtain ⟨e0, e1, e2, e3⟩ := HF.out
  rw [hbj] at HX
  clear hb hown
  rcases hj with ⟨rfl, rfl⟩ | ⟨rfl, rfl⟩ | ⟨rfl, rfl⟩ | ⟨rfl, rfl⟩ | ⟨rfl, rfl⟩
  ·obtain rfl : b0 = bj := e0.symm.trans hbj
   clear hbj e0 e1 e2 e3 HF HALL
   have hix := fun u => ix0 b0 b1 b2 b3 u
   cases b0 with
   | false =>
    generalize upB bf 0 = q at *
    go_wp2_with fail
    go_roundw
    case rel => exact ⟨1, A', c', .inr (.inl ⟨rfl, rfl⟩), by rw [HX.out]; rfl, by rw [HX.out]; exact O.out, HB.out, hsz⟩
    case measure => simp [intOf]
   | true =>
    generalize upB bf 0 = q at *
    go_wp2_with (at_builtin; refine wpList_append_lies _ rfl _ _ 26 rfl (w.heap.size + 1) 3 i0 _ 1 8 Try.underlying26 hi hz0 hz1 hz2 rfl (by decide) _ _ _ rfl (World.ownsRow.alloc O.out _) ⟨wr.heap.size, 0, none⟩ 1 1 [.int .i64 0] rfl rfl ?cnx0 ?cox0 (by decide) ?c63x0 ?cbx0 ?clx0 (wr.heap.size + 1) ?cHx0 ?nextx0)
    (try (case cnx0 => exact World.news_of_block (cs := #[.int .i64 0]) (t := 3) (fr := (0, 0)) (heap_alloc_new _ _)))
    case cox0 => first | (intro u hu; simp at hu; rcases hu with rfl; rfl) | simp [Value.oneCell']
    case c63x0 => first | (unfold maxLen; omega) | omega
    case cbx0 => omega
    case clx0 => first | (simp; omega) | omega
    (try (case cHx0 => simp))
    case nextx0 =>
     intro g2 cap2 w2' hown2 hgrow2 hat2 hlt2
     have c2' : Chg (fun y => (Value.slice A' q.length c').ownBlock = some y) wr w2' := (Chg.alloc _ wr _).trans (Chg.of_grown hgrow2) (fun x _ hx => hx.symm)
     have B2' := hid (HB.out.trans (c2'.below HB.out.size (fun x hx e => by have := (World.ownsRow.lt O.out x e).1; omega)))
     have S2' := c2'.size
     have O2 := hid hown2
     clear hown2 hgrow2 hat2 c2'
     go_wp2_with fail
     go_roundw
     case rel =>
      refine ⟨1, some ⟨g2, 0, none⟩, cap2, .inr (.inl ⟨rfl, rfl⟩), ?_, ?_, B2'.out, by omega⟩
      ·rw [HX.out, if_pos trivial, List.length_append, List.length_singleton]
      ·rw [HX.out, if_pos trivial]
       unfold OwnI
       rw [List.length_append, List.length_singleton, cellsI_append]
       exact O2.out
     case measure => simp [intOf]
  ·obtain rfl : b1 = bj := e1.symm.trans hbj
   clear hbj e0 e1 e2 e3 HF HALL
   have hix := fun u => ix1 b0 b1 b2 b3 u
   cases b1 with
   | false =>
    generalize upB bf 1 = q at *
    go_wp2_with fail
    go_roundw
    case rel => exact ⟨2, A', c', .inr (.inr (.inl ⟨rfl, rfl⟩)), by rw [HX.out]; rfl, by rw [HX.out]; exact O.out, HB.out, hsz⟩
    case measure => simp [intOf]
   | true =>
    generalize upB bf 1 = q at *
    go_wp2_with (at_builtin; refine wpList_append_lies _ rfl _ _ 26 rfl (w.heap.size + 1) 3 i0 _ 1 8 Try.underlying26 hi hz0 hz1 hz2 rfl (by decide) _ _ _ rfl (World.ownsRow.alloc O.out _) ⟨wr.heap.size, 0, none⟩ 1 1 [.int .i64 1] rfl rfl ?cnx1 ?cox1 (by decide) ?c63x1 ?cbx1 ?clx1 (wr.heap.size + 1) ?cHx1 ?nextx1)
    (try (case cnx1 => exact World.news_of_block (cs := #[.int .i64 1]) (t := 3) (fr := (0, 0)) (heap_alloc_new _ _)))
    case cox1 => first | (intro u hu; simp at hu; rcases hu with rfl; rfl) | simp [Value.oneCell']
    case c63x1 => first | (unfold maxLen; omega) | omega
    case cbx1 => omega
    case clx1 => first | (simp; omega) | omega
    (try (case cHx1 => simp))
    case nextx1 =>
     intro g2 cap2 w2' hown2 hgrow2 hat2 hlt2
     have c2' : Chg (fun y => (Value.slice A' q.length c').ownBlock = some y) wr w2' := (Chg.alloc _ wr _).trans (Chg.of_grown hgrow2) (fun x _ hx => hx.symm)
     have B2' := hid (HB.out.trans (c2'.below HB.out.size (fun x hx e => by have := (World.ownsRow.lt O.out x e).1; omega)))
     have S2' := c2'.size
     have O2 := hid hown2
     clear hown2 hgrow2 hat2 c2'
     go_wp2_with fail
     go_roundw
     case rel =>
      refine ⟨2, some ⟨g2, 0, none⟩, cap2, .inr (.inr (.inl ⟨rfl, rfl⟩)), ?_, ?_, B2'.out, by omega⟩
      ·rw [HX.out, if_pos trivial, List.length_append, List.length_singleton]
      ·rw [HX.out, if_pos trivial]
       unfold OwnI
       rw [List.length_append, List.length_singleton, cellsI_append]
       exact O2.out
     case measure => simp [intOf]
  ·obtain rfl : b2 = bj := e2.symm.trans hbj
   clear hbj e0 e1 e2 e3 HF HALL
   have hix := fun u => ix2 b0 b1 b2 b3 u
   cases b2 with
   | false =>
    generalize upB bf 2 = q at *
    go_wp2_with fail
    go_roundw
    case rel => exact ⟨3, A', c', .inr (.inr (.inr (.inl ⟨rfl, rfl⟩))), by rw [HX.out]; rfl, by rw [HX.out]; exact O.out, HB.out, hsz⟩
    case measure => simp [intOf]
   | true =>
    generalize upB bf 2 = q at *
    go_wp2_with (at_builtin; refine wpList_append_lies _ rfl _ _ 26 rfl (w.heap.size + 1) 3 i0 _ 1 8 Try.underlying26 hi hz0 hz1 hz2 rfl (by decide) _ _ _ rfl (World.ownsRow.alloc O.out _) ⟨wr.heap.size, 0, none⟩ 1 1 [.int .i64 2] rfl rfl ?cnx2 ?cox2 (by decide) ?c63x2 ?cbx2 ?clx2 (wr.heap.size + 1) ?cHx2 ?nextx2)
    (try (case cnx2 => exact World.news_of_block (cs := #[.int .i64 2]) (t := 3) (fr := (0, 0)) (heap_alloc_new _ _)))
    case cox2 => first | (intro u hu; simp at hu; rcases hu with rfl; rfl) | simp [Value.oneCell']
    case c63x2 => first | (unfold maxLen; omega) | omega
    case cbx2 => omega
    case clx2 => first | (simp; omega) | omega
    (try (case cHx2 => simp))
    case nextx2 =>
     intro g2 cap2 w2' hown2 hgrow2 hat2 hlt2
     have c2' : Chg (fun y => (Value.slice A' q.length c').ownBlock = some y) wr w2' := (Chg.alloc _ wr _).trans (Chg.of_grown hgrow2) (fun x _ hx => hx.symm)
     have B2' := hid (HB.out.trans (c2'.below HB.out.size (fun x hx e => by have := (World.ownsRow.lt O.out x e).1; omega)))
     have S2' := c2'.size
     have O2 := hid hown2
     clear hown2 hgrow2 hat2 c2'
     go_wp2_with fail
     go_roundw
     case rel =>
      refine ⟨3, some ⟨g2, 0, none⟩, cap2, .inr (.inr (.inr (.inl ⟨rfl, rfl⟩))), ?_, ?_, B2'.out, by omega⟩
      ·rw [HX.out, if_pos trivial, List.length_append, List.length_singleton]
      ·rw [HX.out, if_pos trivial]
       unfold OwnI
       rw [List.length_append, List.length_singleton, cellsI_append]
       exact O2.out
     case measure => simp [intOf]
  ·obtain rfl : b3 = bj := e3.symm.trans hbj
   clear hbj e0 e1 e2 e3 HF HALL
   have hix := fun u => ix3 b0 b1 b2 b3 u
   cases b3 with
   | false =>
    generalize upB bf 3 = q at *
    go_wp2_with fail
    go_roundw
    case rel => exact ⟨4, A', c', .inr (.inr (.inr (.inr ⟨rfl, rfl⟩))), by rw [HX.out]; rfl, by rw [HX.out]; exact O.out, HB.out, hsz⟩
    case measure => simp [intOf]
   | true =>
    generalize upB bf 3 = q at *
    go_wp2_with (at_builtin; refine wpList_append_lies _ rfl _ _ 26 rfl (w.heap.size + 1) 3 i0 _ 1 8 Try.underlying26 hi hz0 hz1 hz2 rfl (by decide) _ _ _ rfl (World.ownsRow.alloc O.out _) ⟨wr.heap.size, 0, none⟩ 1 1 [.int .i64 3] rfl rfl ?cnx3 ?cox3 (by decide) ?c63x3 ?cbx3 ?clx3 (wr.heap.size + 1) ?cHx3 ?nextx3)
    (try (case cnx3 => exact World.news_of_block (cs := #[.int .i64 3]) (t := 3) (fr := (0, 0)) (heap_alloc_new _ _)))
    case cox3 => first | (intro u hu; simp at hu; rcases hu with rfl; rfl) | simp [Value.oneCell']
    case c63x3 => first | (unfold maxLen; omega) | omega
    case cbx3 => omega
    case clx3 => first | (simp; omega) | omega
    (try (case cHx3 => simp))
    case nextx3 =>
     intro g2 cap2 w2' hown2 hgrow2 hat2 hlt2
     have c2' : Chg (fun y => (Value.slice A' q.length c').ownBlock = some y) wr w2' := (Chg.alloc _ wr _).trans (Chg.of_grown hgrow2) (fun x _ hx => hx.symm)
     have B2' := hid (HB.out.trans (c2'.below HB.out.size (fun x hx e => by have := (World.ownsRow.lt O.out x e).1; omega)))
     have S2' := c2'.size
     have O2 := hid hown2
     clear hown2 hgrow2 hat2 c2'
     go_wp2_with fail
     go_roundw
     case rel =>
      refine ⟨4, some ⟨g2, 0, none⟩, cap2, .inr (.inr (.inr (.inr ⟨rfl, rfl⟩))), ?_, ?_, B2'.out, by omega⟩
      ·rw [HX.out, if_pos trivial, List.length_append, List.length_singleton]
      ·rw [HX.out, if_pos trivial]
       unfold OwnI
       rw [List.length_append, List.length_singleton, cellsI_append]
       exact O2.out
     case measure => simp [intOf]
  ·clear e0 e1 e2 e3 hbj HX
   go_wp2_with fail
   go_ret
   exact ⟨A', c', by rw [← HALL.out] <;> rfl, by rw [← HALL.out]; exact own_mono O.out (Nat.le_succ _), HB.out⟩
end Go.Proofs.Ytdmcgkcpclepfaa.Xrl
-- squeezed
