import Derived.Test.YtikdcnlbjpabjabM27
import Derived.Test.YtikdcnlbjpabjabM26
import Derived.Test.YtikdcnlbjpabjabLawC
import Derived.Test.YtikdcnlbjpabjabM2
set_option linter.all false
namespace Go.Proofs.Ytikdcnlbjpabjab.TreeP
open Lib (hid)
open Go.ChangeShapes Go.WideShapes Go.ChangeAt Go.RowKit
open PL Mem Srun Sst To OwnS AskP Res Swhole Sout Irp RunF IntsP RowC AccP AcctP Read3 LawC LawI
theorem out_field2 (a b c d : Value) (w : World) : (Instr.field 59 (.agg #[a, b, c, d]) 2).run Try.prog w = .ok c w := by kernel_rfl
theorem told_field0 (a b : Value) (w : World) : (Instr.field 110 (.agg #[a, b]) 0).run Try.prog w = .ok a w := by kernel_rfl
theorem told_field1 (a b : Value) (w : World) : (Instr.field 110 (.agg #[a, b]) 1).run Try.prog w = .ok b w := by kernel_rfl
theorem tds_lens (t : List Tr) : ∀ j, j ≤ t.length → (tds (t.take j)).owners.length = j ∧ (tds (t.take j)).calls.length ≤ j
 | 0, _ => ⟨rfl, Nat.le_refl _⟩
 | j + 1, hj => by
  obtain ⟨e, he⟩ : ∃ e, t[j]? = some e := ⟨_, List.getElem?_eq_getElem (by omega)⟩
  have ih := tds_lens t j (by omega)
  rw [tds_take he]
  have h1 := td_owners (tds (t.take j)) e
  have h2 := td_calls (tds (t.take j)) e
  omega
theorem tds_len (t : List Tr) : (tds t).owners.length = t.length ∧ (tds t).calls.length ≤ t.length := by
 have := tds_lens t t.length (Nat.le_refl _)
 rwa [List.take_length] at this
def treeR (p : Pg) (f arg fuel : Int) : List CI × Bool := ((tds (runR p f arg fuel).1.trace).calls, (runR p f arg fuel).2)
def ownR (p : Pg) (f arg fuel : Int) : List Int × Bool := ((tds (runR p f arg fuel).1.trace).owners, (runR p f arg fuel).2)
theorem treeR_len (p : Pg) (f arg fuel : Int) : (treeR p f arg fuel).1.length ≤ 100000 := Nat.le_trans (tds_len _).2 (runR_len p f arg fuel)
theorem ownR_len (p : Pg) (f arg fuel : Int) : (ownR p f arg fuel).1.length ≤ 100000 := Nat.le_trans (Nat.le_of_eq (tds_len _).1) (runR_len p f arg fuel)
set_option maxRecDepth 100000 in
set_option maxHeartbeats 4000000 in
theorem treeS_any (lo n c : Nat) (A : Option Addr) (p : Pg) (f arg fuel : Int) (hn : n ≤ 9223372036854775807) (hl : p.length = n) (hsm : Small p 9223372036854775807) (w : World) (ho : OwnP w lo (.slice A n c) p) :
  Calls Try.prog 51 #[.agg #[.slice A n c], .int .i64 f, .int .i64 arg, .int .i64 fuel] w (CallsR (treeR p f arg fuel) w) := by
 have hq := hid (fun W (h : Below w.heap.size w W) => l2Ask_any w.heap.size A n c p f arg fuel hn hl hsm W (ho.rd.below h) h.size)
 have hal : ∀ o1 : Obj, Below w.heap.size w (w.alloc o1) := fun o1 => (Below.refl _ _).alloc (Nat.le_refl _) _
 have HAL := hid hal
 have hlen := runR_len p f arg fuel
 cases ha : asks p f arg fuel with
 | false =>
  have hr := hid (show treeR p f arg fuel = ([], false) by unfold treeR runR; rw [ha]; rfl)
  rw [ha] at hq
  clear ha ho hsm hal hlen
  go_enter Try.func51, Try.ntmps51
  go_wp2_with fail
  refine (hq.out _ (HAL.out _)).mono ?_
  rintro e w1 ⟨rfl, b1⟩
  go_wp2_with fail
  go_ret2
  have B := (HAL.out (.cells #[.slice A n c] 31)).trans (b1.mono (HAL.out _).size)
  exact ⟨_, _, by rw [hr.out] <;> rfl, by rw [hr.out]; exact App.empty_own (heap1_0 w1 _) B.size, B.alloc B.size _⟩
 | true =>
  obtain ⟨h1, h2, h3, h4, h5, h6⟩ := start_wf (n := n) ha
  have hn6 : p.length ≤ 6 ∧ Small p 8 := okProg_small h1
  have hru := hid (fun W (h : Below w.heap.size w W) => l2Run_any lo n c A p f arg fuel hl (hn6.2.mono (by omega)) (by omega) ha W (ho.below h))
  have hrr : runR p f arg fuel = (run p fuel f arg, true) := by unfold runR; rw [ha]; rfl
  have hwh := runR_whole (p := p) (f := f) (arg := arg) (fuel := fuel) (by rw [hrr])
  have hr : treeR p f arg fuel = ((tds (run p fuel f arg).trace).calls, true) := by unfold treeR; rw [hrr]
  rw [hrr] at hlen hwh
  rw [ha] at hq
  clear ha ho hsm hal h1 h2 h3 h4 h5 h6 hn6 hrr
  generalize run p fuel f arg = r at *
  obtain ⟨k, v, t, s⟩ := r
  dsimp only at hr hlen hwh
  have HR := hid hr
  have HW := hid hwh
  clear hr hwh
  go_enter Try.func51, Try.ntmps51
  go_wp2_with fail
  refine (hq.out _ (HAL.out _)).mono ?_
  rintro e w1 ⟨rfl, b1⟩
  have a1' : w1.cell? ⟨w.heap.size, 0, none⟩ = some (.slice A n c) := (Blk.below (heap1_0 w (.cells #[.slice A n c] 31)) b1 (by simp)).cells 0
  have bb := hid ((HAL.out (.cells #[.slice A n c] 31)).trans (b1.mono (HAL.out _).size))
  clear b1 hq
  go_wp2_with fail
  refine (hru.out _ bb.out).mono ?_
  rintro e w2 ⟨A2, c2, rfl, ht, b2⟩
  unfold outval
  have B2 := hid (bb.out.trans (b2.mono bb.out.size))
  have hR := hid (rd_own ht)
  dsimp only at hR ⊢
  clear a1' hru b2 bb ht
  have hf2 := fun u => out_field2 (.int .i64 k) (.int .i64 v) (.slice A2 t.length c2) (.int .i64 s) u
  go_wp2_with fail
  refine (l3Read_any w2.heap.size t.length c2 A2 t HW.out rfl hlen w2 hR.out (Nat.le_refl _)).mono ?_
  rintro e w3 ⟨Ac, cc, Ao, co, rfl, oc, oo, b3⟩
  have O3 := hid oc
  have B3 := hid b3
  have hf0 := fun u => told_field0 (.slice Ac (tds t).calls.length cc) (.slice Ao (tds t).owners.length co) u
  clear oc oo b3 hf2
  go_wp2_with fail
  go_ret2
  exact ⟨Ac, cc, by rw [HR.out] <;> rfl, by rw [HR.out]; exact own_mono O3.out B2.out.size, B2.out.trans (B3.out.mono B2.out.size)⟩
set_option maxRecDepth 100000 in
set_option maxHeartbeats 4000000 in
theorem treeI_any (lo n c : Nat) (A : Option Addr) (p : Pg) (f arg fuel : Int) (hn : n ≤ 9223372036854775807) (hl : p.length = n) (hsm : Small p 9223372036854775807) (w : World) (ho : OwnP w lo (.slice A n c) p) :
  Calls Try.prog 32 #[.agg #[.slice A n c], .int .i64 f, .int .i64 arg, .int .i64 fuel] w (CallsR (treeR p f arg fuel) w) := by
 have hq := hid (fun W (h : Below w.heap.size w W) => accountOf_any lo n c A p f arg fuel hn hl hsm W (ho.below h))
 have hal : ∀ o1 : Obj, Below w.heap.size w (w.alloc o1) := fun o1 => (Below.refl _ _).alloc (Nat.le_refl _) _
 have HAL := hid hal
 have hr := hid (show treeR p f arg fuel = ((tds (runR p f arg fuel).1.trace).calls, (runR p f arg fuel).2) from rfl)
 generalize runR p f arg fuel = r at *
 clear ho hsm hal
 go_enter Try.func32, Try.ntmps32
 go_wp2_with fail
 refine (hq.out _ (HAL.out _)).mono ?_
 rintro e w2 ⟨g, k, v, s, At, ct, cv, ov, cur, rfl, hacc, hrd, hg, b2⟩
 obtain ⟨Ac, cc, rfl⟩ := own_slice hacc.calls
 obtain ⟨Ao, co, rfl⟩ := own_slice hacc.owners
 have z4 : w2.cell? ⟨g, 4, none⟩ = some (.slice Ac (tds r.1.trace).calls.length cc) := hacc.blk.cells 4
 have z5 : w2.cell? ⟨g, 5, none⟩ = some (.slice Ao (tds r.1.trace).owners.length co) := hacc.blk.cells 5
 have BB := hid ((HAL.out (.cells #[.slice A n c] 31)).trans (b2.mono (HAL.out _).size))
 have O := hid (own_mono (B' := w.heap.size) hacc.calls (Nat.le_trans (HAL.out _).size hg))
 clear hacc hrd b2 hq
 go_wp2_with fail
 go_ret2
 exact ⟨Ac, cc, by rw [hr.out] <;> rfl, by rw [hr.out]; exact O.out, BB.out⟩
end Go.Proofs.Ytikdcnlbjpabjab.TreeP
-- squeezed
