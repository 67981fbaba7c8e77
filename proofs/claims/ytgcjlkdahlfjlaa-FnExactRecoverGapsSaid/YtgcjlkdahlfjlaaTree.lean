/- CallTree and OwnersOf: spec and impl. (Written by wip/tools/gentree.py.) -/
import Derived.Test.YtgcjlkdahlfjlaaM27
import Derived.Test.YtgcjlkdahlfjlaaM26
import Derived.Test.YtgcjlkdahlfjlaaLawC
import Derived.Test.YtgcjlkdahlfjlaaM2
set_option linter.unusedVariables false
set_option linter.unusedSimpArgs false
namespace Go.Proofs.Ytgcjlkdahlfjlaa.TreeP
open Go.ChangeShapes Go.WideShapes Go.ChangeAt Go.RowKit
open PL Mem Srun Sst To OwnS AskP Res Swhole Sout Irp RunF IntsP RowC AccP AcctP Read3 LawC LawI

theorem out_field2 (a b c d : Value) (w : World) : (Instr.field 90 (.agg #[a, b, c, d]) 2).run Try.prog w = .ok c w := by kernel_rfl
theorem told_field0 (a b : Value) (w : World) : (Instr.field 106 (.agg #[a, b]) 0).run Try.prog w = .ok a w := by kernel_rfl
theorem tds_lens (t : List Tr) : ∀ j, j ≤ t.length → (tds (t.take j)).owners.length = j ∧ (tds (t.take j)).calls.length ≤ j
 | 0, _ => ⟨rfl, Nat.le_refl _⟩
 | j + 1, hj => by
  obtain ⟨e, he⟩ : ∃ e, t[j]? = some e := ⟨_, List.getElem?_eq_getElem (by omega)⟩
  have ih := tds_lens t j (by omega)
  rw [tds_take he]
  have h1 := td_owners (tds (t.take j)) e
  have h2 := td_calls (tds (t.take j)) e
  omega
theorem tds_len (t : List Tr) : (tds t).owners.length = t.length ∧ (tds t).calls.length ≤ t.length := by
 have := tds_lens t t.length (Nat.le_refl _)
 rwa [List.take_length] at this
def treeR (p : Pg) (f arg fuel : Int) : List CI × Bool := ((tds (runR p f arg fuel).1.trace).calls, (runR p f arg fuel).2)
theorem treeR_len (p : Pg) (f arg fuel : Int) : (treeR p f arg fuel).1.length ≤ 100000 := Nat.le_trans (tds_len _).2 (runR_len p f arg fuel)
set_option maxRecDepth 100000 in
set_option maxHeartbeats 4000000 in
theorem treeS_any (lo n c : Nat) (A : Option Addr) (p : Pg) (f arg fuel : Int) (hn : n ≤ 9223372036854775807) (hl : p.length = n) (hsm : Small p 9223372036854775807) (w : World) (ho : OwnP w lo (.slice A n c) p) :
  Calls Try.prog 69 #[.agg #[.slice A n c], .int .i64 f, .int .i64 arg, .int .i64 fuel] w (CallsR (treeR p f arg fuel) w) := by
 have hq := Lib.hid (fun W (h : Below w.heap.size w W) => l2Ask_any w.heap.size A n c p f arg fuel hn hl hsm W (ho.rd.below h) h.size)
 have hal : ∀ o1 : Obj, Below w.heap.size w (w.alloc o1) := fun o1 => (Below.refl _ _).alloc (Nat.le_refl _) _
 have HAL := Lib.hid hal
 have hlen := runR_len p f arg fuel
 cases ha : asks p f arg fuel with
 | false =>
  have hr := Lib.hid (show treeR p f arg fuel = ([], false) by unfold treeR runR; rw [ha]; rfl)
  rw [ha] at hq
  clear ha ho hsm hal hlen
  go_enter Try.func69, Try.ntmps69
  go_wp2_with fail
  refine (hq.out _ (HAL.out _)).mono ?_
  rintro e w1 ⟨rfl, b1⟩
  go_wp2_with fail
  go_ret2
  have B := (HAL.out (.cells #[.slice A n c] 31)).trans (b1.mono (HAL.out _).size)
  exact ⟨_, _, by rw [hr.out] <;> rfl, by rw [hr.out]; exact App.empty_own (heap1_0 w1 _) B.size, B.alloc B.size _⟩
 | true =>
  obtain ⟨h1, h2, h3, h4, h5, h6⟩ := start_wf (n := n) ha
  have hn6 : p.length ≤ 6 ∧ Small p 8 := okProg_small h1
  have hru := Lib.hid (fun W (h : Below w.heap.size w W) => l2Run_any lo n c A p f arg fuel hl (hn6.2.mono (by omega)) (by omega) ha W (ho.below h))
  have hrr : runR p f arg fuel = (run p fuel f arg, true) := by unfold runR; rw [ha]; rfl
  have hwh := runR_whole (p := p) (f := f) (arg := arg) (fuel := fuel) (by rw [hrr])
  have hr : treeR p f arg fuel = ((tds (run p fuel f arg).trace).calls, true) := by unfold treeR; rw [hrr]
  rw [hrr] at hlen hwh
  rw [ha] at hq
  clear ha ho hsm hal h1 h2 h3 h4 h5 h6 hn6 hrr
  generalize run p fuel f arg = r at *
  obtain ⟨k, v, t, s⟩ := r
  dsimp only at hr hlen hwh
  have HR := Lib.hid hr
  have HW := Lib.hid hwh
  clear hr hwh
  go_enter Try.func69, Try.ntmps69
  go_wp2_with fail
  refine (hq.out _ (HAL.out _)).mono ?_
  rintro e w1 ⟨rfl, b1⟩
  have a1' : w1.cell? ⟨w.heap.size, 0, none⟩ = some (.slice A n c) := (Blk.below (heap1_0 w (.cells #[.slice A n c] 31)) b1 (by simp)).cells 0
  have bb := Lib.hid ((HAL.out (.cells #[.slice A n c] 31)).trans (b1.mono (HAL.out _).size))
  clear b1 hq
  go_wp2_with fail
  refine (hru.out _ bb.out).mono ?_
  rintro e w2 ⟨A2, c2, rfl, ht, b2⟩
  unfold outval
  have B2 := Lib.hid (bb.out.trans (b2.mono bb.out.size))
  have hR := Lib.hid (rd_own ht)
  dsimp only at hR ⊢
  clear a1' hru b2 bb ht
  have hf2 := fun u => out_field2 (.int .i64 k) (.int .i64 v) (.slice A2 t.length c2) (.int .i64 s) u
  go_wp2_with fail
  refine (l3Read_any w2.heap.size t.length c2 A2 t HW.out rfl hlen w2 hR.out (Nat.le_refl _)).mono ?_
  rintro e w3 ⟨Ac, cc, Ao, co, rfl, oc, oo, b3⟩
  have O3 := Lib.hid oc
  have B3 := Lib.hid b3
  have hf0 := fun u => told_field0 (.slice Ac (tds t).calls.length cc) (.slice Ao (tds t).owners.length co) u
  clear oc oo b3 hf2
  go_wp2_with fail
  go_ret2
  exact ⟨Ac, cc, by rw [HR.out] <;> rfl, by rw [HR.out]; exact own_mono O3.out B2.out.size, B2.out.trans (B3.out.mono B2.out.size)⟩
end Go.Proofs.Ytgcjlkdahlfjlaa.TreeP
-- squeezed
