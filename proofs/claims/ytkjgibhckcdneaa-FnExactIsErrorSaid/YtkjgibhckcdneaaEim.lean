/- The errors of Go that stand for those of valid Errors, in memory; their methods. -/
import Derived.Test.YtkjgibhckcdneaaErwf
import Derived.Test.YtkjgibhckcdneaaEiw
import Derived.Test.YtkjgibhckcdneaaEif
import Derived.BigQuiet
namespace Go.Proofs.Ytkjgibhckcdneaa.ErI
set_option linter.unusedVariables false
set_option linter.unusedSimpArgs false
open Go.ChangeShapes Go.WideShapes Go.ChangeAt Go.RowKit
open Mem IntsP ErP ErM ErT ErA ErU ErD ErW ErL ErF ErQ

def TyE (k : Int) : TypeId := if k = 2 then 92 else if k = 3 then 95 else if k = 4 then 99 else 102
def valE (e : Er) (bs : Nat → Nat) (z : Nat) : Value := .iface (TyE (nodeE e z).1) (.pointer (some ⟨bs z, 0, none⟩))
structure Vals (V : World) (e : Er) (bs : Nat → Nat) (k : Nat) : Prop where
  inj : ∀ i j, k ≤ i → i < e.length → k ≤ j → j < e.length → bs i = bs j → i = j
  blk : ∀ (i : Nat) (s : En), k ≤ i → e[i]? = some s → ∃ cs ty, Blk V (bs i) ty cs ∧ cs[0]? = some (.int .i64 i) ∧ cs[1]? = some (.int .i64 s.2.1)
  wrap : ∀ (i : Nat) (s : En), k ≤ i → e[i]? = some s → s.1 = 2 → ∃ p : Nat, s.2.2[0]? = some (p : Int) ∧ V.cell? ⟨bs i, 2, none⟩ = some (valE e bs p)
  join : ∀ (i : Nat) (s : En), k ≤ i → e[i]? = some s → s.1 = 3 → ∃ (A : Addr) (c : Nat), A.block < V.heap.size ∧ V.cell? ⟨bs i, 3, none⟩ = some (.slice (some A) (onceE s.2.2 s.2.2.length).length c) ∧ ∀ (j : Nat) (p : Nat), (onceE s.2.2 s.2.2.length)[j]? = some (p : Int) → V.cell? (A.add j) = some (valE e bs p)
theorem Vals.chg {V V' : World} {e : Er} {bs : Nat → Nat} {k : Nat} (h : Vals V e bs k) (hc : Chg (fun _ => False) V V') : Vals V' e bs k := by
  refine ⟨h.inj, fun i s hk hs => ?_, fun i s hk hs h2 => ?_, fun i s hk hs h3 => ?_⟩
  · obtain ⟨cs, ty, h1, h2⟩ := h.blk i s hk hs
    exact ⟨cs, ty, h1.chg hc (fun h => h), h2⟩
  · obtain ⟨p, h1, h3⟩ := h.wrap i s hk hs h2
    obtain ⟨cs, ty, h4, _⟩ := h.blk i s hk hs
    exact ⟨p, h1, (hc.cell (p := ⟨bs i, 2, none⟩) h4.lt (fun h => h)).trans h3⟩
  · obtain ⟨A, c, h1, h2, h4⟩ := h.join i s hk hs h3
    obtain ⟨cs, ty, h5, _⟩ := h.blk i s hk hs
    exact ⟨A, c, Nat.lt_of_lt_of_le h1 hc.size, (hc.cell (p := ⟨bs i, 3, none⟩) h5.lt (fun h => h)).trans h2, fun j p hp => (hc.cell (by rw [block_of_add]; exact h1) (fun h => h)).trans (h4 j p hp)⟩
theorem tyE_cases (k : Int) : (k = 2 ∧ TyE k = 92) ∨ (k = 3 ∧ TyE k = 95) ∨ (k = 4 ∧ TyE k = 99) ∨ (k ≠ 2 ∧ k ≠ 3 ∧ k ≠ 4 ∧ TyE k = 102) := by
  unfold TyE
  by_cases h2 : k = 2
  · simp [h2]
  · by_cases h3 : k = 3
    · simp [h3]
    · by_cases h4 : k = 4
      · simp [h4]
      · simp [h2, h3, h4]
theorem eql_ty (a b : Addr) (ca cb : Array Value) (ta tb : TypeId) (w : World) (k : Int) (hne : a ≠ b) (ha : w.heap[a.block]? = some (.cells ca ta (0, 0))) (hb : w.heap[b.block]? = some (.cells cb tb (0, 0))) :
    (binOp .eql 76 (.iface (TyE k) (.pointer (some a))) (.iface (TyE k) (.pointer (some b)))).run Try.prog w = .ok (.bool false) w := by
  rcases tyE_cases k with ⟨_, h⟩ | ⟨_, h⟩ | ⟨_, h⟩ | ⟨_, _, _, h⟩ <;> rw [h]
  · obtain ⟨i, hi, hcmp⟩ := Option.map_eq_some_iff.1 compW
    obtain ⟨j, hj, hjs⟩ := Option.map_eq_some_iff.1 sizeW
    exact run_eql_iface_ptr_other (P := Try.prog) w Try.underlying76 Try.underlying92 hi hcmp hj (of_decide_eq_true hjs) hne ha hb
  · obtain ⟨i, hi, hcmp⟩ := Option.map_eq_some_iff.1 compJ
    obtain ⟨j, hj, hjs⟩ := Option.map_eq_some_iff.1 sizeJ
    exact run_eql_iface_ptr_other (P := Try.prog) w Try.underlying76 Try.underlying95 hi hcmp hj (of_decide_eq_true hjs) hne ha hb
  · obtain ⟨i, hi, hcmp⟩ := Option.map_eq_some_iff.1 compL
    obtain ⟨j, hj, hjs⟩ := Option.map_eq_some_iff.1 sizeL
    exact run_eql_iface_ptr_other (P := Try.prog) w Try.underlying76 Try.underlying99 hi hcmp hj (of_decide_eq_true hjs) hne ha hb
  · obtain ⟨i, hi, hcmp⟩ := Option.map_eq_some_iff.1 compP
    obtain ⟨j, hj, hjs⟩ := Option.map_eq_some_iff.1 sizeP
    exact run_eql_iface_ptr_other (P := Try.prog) w Try.underlying76 Try.underlying102 hi hcmp hj (of_decide_eq_true hjs) hne ha hb
theorem eql_self (a : Addr) (w : World) (k : Int) :
    (binOp .eql 76 (.iface (TyE k) (.pointer (some a))) (.iface (TyE k) (.pointer (some a)))).run Try.prog w = .ok (.bool true) w := by
  rcases tyE_cases k with ⟨_, h⟩ | ⟨_, h⟩ | ⟨_, h⟩ | ⟨_, _, _, h⟩ <;> rw [h]
  · obtain ⟨i, hi, hcmp⟩ := Option.map_eq_some_iff.1 compW
    obtain ⟨j, hj, hjs⟩ := Option.map_eq_some_iff.1 sizeW
    exact run_eql_iface_ptr_same (P := Try.prog) w a Try.underlying76 Try.underlying92 hi hcmp hj
  · obtain ⟨i, hi, hcmp⟩ := Option.map_eq_some_iff.1 compJ
    obtain ⟨j, hj, hjs⟩ := Option.map_eq_some_iff.1 sizeJ
    exact run_eql_iface_ptr_same (P := Try.prog) w a Try.underlying76 Try.underlying95 hi hcmp hj
  · obtain ⟨i, hi, hcmp⟩ := Option.map_eq_some_iff.1 compL
    obtain ⟨j, hj, hjs⟩ := Option.map_eq_some_iff.1 sizeL
    exact run_eql_iface_ptr_same (P := Try.prog) w a Try.underlying76 Try.underlying99 hi hcmp hj
  · obtain ⟨i, hi, hcmp⟩ := Option.map_eq_some_iff.1 compP
    obtain ⟨j, hj, hjs⟩ := Option.map_eq_some_iff.1 sizeP
    exact run_eql_iface_ptr_same (P := Try.prog) w a Try.underlying76 Try.underlying102 hi hcmp hj
/-- Two of them are the same if their numbers are. -/
theorem eql_val {W : World} {e : Er} {bs : Nat → Nat} {z t : Nat} (h : Vals W e bs 0) (hz : z < e.length) (ht : t < e.length) : (binOp .eql 76 (valE e bs z) (valE e bs t)).run Try.prog W = .ok (.bool (decide (z = t))) W := by
  unfold valE
  by_cases hzt : z = t
  · subst hzt
    rw [eql_self, decide_eq_true rfl]
  · rw [decide_eq_false hzt]
    by_cases hk : TyE (nodeE e z).1 = TyE (nodeE e t).1
    · obtain ⟨sz, hsz⟩ : ∃ s, e[z]? = some s := ⟨_, List.getElem?_eq_getElem hz⟩
      obtain ⟨st, hst⟩ : ∃ s, e[t]? = some s := ⟨_, List.getElem?_eq_getElem ht⟩
      obtain ⟨ca, ta, h1, _⟩ := h.blk z sz (Nat.zero_le _) hsz
      obtain ⟨cb, tb, h2, _⟩ := h.blk t st (Nat.zero_le _) hst
      rw [← hk]
      exact eql_ty ⟨bs z, 0, none⟩ ⟨bs t, 0, none⟩ ca cb ta tb W _ (fun e1 => hzt (h.inj z t (Nat.zero_le _) hz (Nat.zero_le _) ht (congrArg Addr.block e1))) h1 h2
    · exact run_eql_iface_types (P := Try.prog) _ _ _ _ Try.underlying76 hk W
theorem eql_nil (tp : TypeId) (v : Value) (w : World) : (binOp .eql 76 (.iface tp v) .nilIface).run Try.prog w = .ok (.bool false) w := by
  have h : ∀ d : Nat, (Op.equalIn (d + 1) 76 (.iface tp v) .nilIface).run Try.prog w = .ok false w := fun d => by simp [Op.equalIn, run_underlying Try.underlying76]
  simp only [binOp]
  simp [Op.equal, Op.maxDepth, h 9999]
end Go.Proofs.Ytkjgibhckcdneaa.ErI
