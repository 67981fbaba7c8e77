/- WithDefer of both sides: one call of PutStep. (Written by wip/tools/genwith.py.) -/
import Derived.Test.YtgfjdfmmkomolaaPutS2
namespace Go.Proofs.Ytgfjdfmmkomolaa.WithI
set_option linter.unusedVariables false
set_option linter.unusedSimpArgs false
open Go.ChangeShapes Go.WideShapes Go.ChangeAt Go.RowKit
open PL Mem To MarkP Res Prg PrgS StpS DeferP DeferW DelP MoveP SlotP DropI OwnS DropS InsP PutI PutS PutS2

def withR (p : Pg) (f g r : Int) : Pg × Bool := putR p f 0 (5, g, r)
theorem with_fits (p : Pg) (f g r : Int) : Fits (withR p f g r).1 := put_fits p f 0 (5, g, r)

set_option maxHeartbeats 1000000 in
theorem implWith_any (lo n c : Nat) (A : Option Addr) (p : Pg) (f g r : Int) (hn : n ≤ 2000000) (hl : p.length = n) (hsm : Small p 2000000) (w : World) (ho : OwnP w lo (.slice A n c) p) :
    Calls Try.prog 32 #[.agg #[.slice A n c], .int .i64 f, .int .i64 g, .int .i64 r] w (ProgR (withR p f g r) w) := by
  have hP := Lib.hid (fun (W : World) (h : OwnP W lo (.slice A n c) p) => implPut_any lo n c A p f 0 (5, g, r) hn hl hsm W h)
  have hO := Lib.hid ho
  clear ho
  unfold withR
  obtain ⟨⟨q, b⟩, hq⟩ : ∃ x, putR p f 0 (5, g, r) = x := ⟨_, rfl⟩
  rw [hq] at hP
  rw [hq]
  clear hq hl hsm
  go_enter Try.func32, Try.ntmps32
  go_wp2_with fail
  refine (hP.out _ (hO.out.below (two_below n c _ w))).mono ?_
  rintro e w1 ⟨A1, c1, rfl, o1, b1⟩
  obtain ⟨d0, d1, bb1, s1⟩ := two_facts b1
  have zz : w1.cell? ⟨w.heap.size + 1, 0, none⟩ = some (.slice none 0 0) := d1.cells 0
  have ff := d1.frozen 0
  have O1 := Lib.hid o1
  have hs2 := b1.size
  have h2 : (two n c A w).heap.size = w.heap.size + 2 := by simp [two]
  clear d0 d1 b1 o1
  go_wp2_with fail
  refine bodyPost_ret (v := .tuple #[.agg #[.slice A1 q.length c1], .bool b]) (by simp [results, Try.results32, go_sem, zz]) rfl ?_
  have o := OwnH.of O1.out
  exact ⟨_, _, rfl, (o.keep (w' := w1.setCell ⟨w.heap.size + 1, 0, none⟩ (.slice A1 q.length c1)) (fun b h1 _ => Below.heap_setCell _ _ _ _ (by show b ≠ w.heap.size + 1; omega))).own.mono (show w.heap.size ≤ (two n c A w).heap.size by omega), bb1.setCell (by show w.heap.size ≤ w.heap.size + 1; omega) _⟩

set_option maxHeartbeats 1000000 in
theorem specWith_any (lo n c : Nat) (A : Option Addr) (p : Pg) (f g r : Int) (hn : n ≤ 2000000) (hl : p.length = n) (hsm : Small p 2000000) (w : World) (ho : OwnP w lo (.slice A n c) p) :
    Calls Try.prog 31 #[.agg #[.slice A n c], .int .i64 f, .int .i64 g, .int .i64 r] w (ProgR (withR p f g r) w) := by
  have hP := Lib.hid (fun (W : World) (h : OwnP W lo (.slice A n c) p) => specPut_any lo n c A p f 0 (5, g, r) hn hl hsm W h)
  have hO := Lib.hid ho
  clear ho
  unfold withR
  obtain ⟨⟨q, b⟩, hq⟩ : ∃ x, putR p f 0 (5, g, r) = x := ⟨_, rfl⟩
  rw [hq] at hP
  rw [hq]
  clear hq hl hsm
  go_enter Try.func31, Try.ntmps31
  go_wp2_with fail
  refine (hP.out _ (hO.out.below (two_below n c _ w))).mono ?_
  rintro e w1 ⟨A1, c1, rfl, o1, b1⟩
  obtain ⟨d0, d1, bb1, s1⟩ := two_facts b1
  have zz : w1.cell? ⟨w.heap.size + 1, 0, none⟩ = some (.slice none 0 0) := d1.cells 0
  have ff := d1.frozen 0
  have O1 := Lib.hid o1
  have hs2 := b1.size
  have h2 : (two n c A w).heap.size = w.heap.size + 2 := by simp [two]
  clear d0 d1 b1 o1
  go_wp2_with fail
  refine bodyPost_ret (v := .tuple #[.agg #[.slice A1 q.length c1], .bool b]) (by simp [results, Try.results31, go_sem, zz]) rfl ?_
  have o := OwnH.of O1.out
  exact ⟨_, _, rfl, (o.keep (w' := w1.setCell ⟨w.heap.size + 1, 0, none⟩ (.slice A1 q.length c1)) (fun b h1 _ => Below.heap_setCell _ _ _ _ (by show b ≠ w.heap.size + 1; omega))).own.mono (show w.heap.size ≤ (two n c A w).heap.size by omega), bb1.setCell (by show w.heap.size ≤ w.heap.size + 1; omega) _⟩
end Go.Proofs.Ytgfjdfmmkomolaa.WithI
