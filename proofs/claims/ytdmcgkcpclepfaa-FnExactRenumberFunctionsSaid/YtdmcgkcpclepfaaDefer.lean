import Derived.Test.YtdmcgkcpclepfaaCopy
import Derived.Test.YtdmcgkcpclepfaaMark
import Derived.Test.YtdmcgkcpclepfaaRes
import Derived.Test.YtdmcgkcpclepfaaIsp
import Derived.Test.YtdmcgkcpclepfaaIspS
set_option linter.all false
namespace Go.Proofs.Ytdmcgkcpclepfaa.DeferP
open Lib (hid)
open Go.ChangeShapes Go.WideShapes Go.ChangeAt Go.RowKit
open PL Mem To MarkP Res Prg PrgS StpS
def ProgR (r : Pg × Bool) (w : World) (e : Ending) (w' : World) : Prop :=
 ∃ A c, e = .returned (.tuple #[.agg #[.slice A r.1.length c], .bool r.2]) ∧ OwnP w' w.heap.size (.slice A r.1.length c) r.1 ∧ Below w.heap.size w w'
theorem own_nil (w : World) (lo : Nat) : OwnP w lo (.slice none 0 0) [] := ⟨[], rfl, ⟨rfl, .inl ⟨rfl, rfl⟩⟩, fun _ _ h => by simp at h, fun _ _ _ _ _ h => by simp at h⟩
theorem isFn_eq (p : Pg) (f : Int) : isFn p f = (okProg p && inP f p.length) := by simp [isFn, inP, Bool.and_assoc]
theorem isFunction_any (B : Nat) (A : Option Addr) (n c : Nat) (p : Pg) (f : Int) (hn : n ≤ 9223372036854775807) (hl : p.length = n) (hsm : Small p 9223372036854775807) (w : World) (hr : RdP w B A p) (hB : B ≤ w.heap.size) :
  Calls Try.prog 75 #[.agg #[.slice A n c], .int .i64 f] w fun e w' => e = .returned (.bool (isFn p f)) ∧ Below w.heap.size w w' := by
 have hC := hid (fun w hr hB => isProgram_any B A n c p hn hl hsm w hr hB)
 have hR := hid hr
 have h1 : ∀ o : Obj, Below w.heap.size w (w.alloc o) := fun o => (Below.refl _ _).alloc (Nat.le_refl _) _
 have H1 := hid h1
 have hL := hid hl
 clear hr h1 hl hsm
 cases hok : okProg p with
 | false =>
  have hs := hid (show isFn p f = false by simp [isFn, hok])
  rw [hok] at hC
  clear hok
  go_enter Try.func75, Try.ntmps75
  go_wp2_with fail
  refine (hC.out _ (hR.out.below ((H1.out _).mono hB)) (Nat.le_trans hB (H1.out _).size)).mono ?_
  rintro e w1 ⟨rfl, b1⟩
  go_wp2_with fail
  go_ret
  exact ⟨by rw [hs.out]; rfl, (H1.out _).trans (b1.mono (H1.out _).size)⟩
 | true =>
  rw [hok] at hC
  have hb : ∀ w1 : World, Below (w.alloc (.cells #[.slice A n c] 31)).heap.size (w.alloc (.cells #[.slice A n c] 31)) w1 → w1.cell? ⟨w.heap.size, 0, none⟩ = some (.slice A n c) :=
   fun w1 b => (b.cell (p := ⟨w.heap.size, 0, none⟩) (by simp)).trans (by simp [go_sem])
  have HB := hid hb
  by_cases f0 : 0 ≤ f
  ·by_cases fn : f < n
   ·have hs := hid (show isFn p f = true by simp only [isFn, hok, hL.out, Bool.true_and, Bool.and_eq_true, decide_eq_true_eq]; exact ⟨f0, fn⟩)
    clear hok hb
    go_enter Try.func75, Try.ntmps75
    go_wp2_with fail
    refine (hC.out _ (hR.out.below ((H1.out _).mono hB)) (Nat.le_trans hB (H1.out _).size)).mono ?_
    rintro e w1 ⟨rfl, b1⟩
    have k1 := HB.out w1 b1
    go_wp2_with fail
    go_ret
    exact ⟨by rw [hs.out]; rfl, (H1.out _).trans (b1.mono (H1.out _).size)⟩
   ·have hs := hid (show isFn p f = false by simp [isFn, hok, hL.out]; omega)
    have hd : decide (f < (n : Int)) = false := by simpa using fn
    clear hok hb
    go_enter Try.func75, Try.ntmps75
    go_wp2_with fail
    refine (hC.out _ (hR.out.below ((H1.out _).mono hB)) (Nat.le_trans hB (H1.out _).size)).mono ?_
    rintro e w1 ⟨rfl, b1⟩
    have k1 := HB.out w1 b1
    go_wp2_with fail
    go_ret
    exact ⟨by rw [hs.out]; rfl, (H1.out _).trans (b1.mono (H1.out _).size)⟩
  ·have hs := hid (show isFn p f = false by simp [isFn, hok]; omega)
   clear hok hb
   go_enter Try.func75, Try.ntmps75
   go_wp2_with fail
   refine (hC.out _ (hR.out.below ((H1.out _).mono hB)) (Nat.le_trans hB (H1.out _).size)).mono ?_
   rintro e w1 ⟨rfl, b1⟩
   have k1 := HB.out w1 b1
   go_wp2_with fail
   go_ret
   exact ⟨by rw [hs.out]; rfl, (H1.out _).trans (b1.mono (H1.out _).size)⟩
def dpart (φ : Tr → Tr) (b : List Tr) (i : Nat) : List Tr := (b.take i).map φ ++ b.drop i
theorem part_length (φ : Tr → Tr) (b : List Tr) (i : Nat) (h : i ≤ b.length) : (dpart φ b i).length = b.length := by simp [dpart]; omega
theorem part_at (φ : Tr → Tr) (b : List Tr) (i : Nat) (s : Tr) (h : b[i]? = some s) : (dpart φ b i)[i]? = some s := by
 have hi := (List.getElem?_eq_some_iff.1 h).1
 unfold dpart
 rw [List.getElem?_append_right (by simp; omega)]
 simpa [Nat.min_eq_left (Nat.le_of_lt hi)] using h
theorem part_next (φ : Tr → Tr) (b : List Tr) (i : Nat) (s : Tr) (h : b[i]? = some s) : (dpart φ b i).set i (φ s) = dpart φ b (i + 1) := by
 have hi := (List.getElem?_eq_some_iff.1 h).1
 have hl : ((b.take i).map φ).length = i := by simp; omega
 unfold dpart
 rw [List.set_append_right _ _ (by omega), hl, Nat.sub_self, List.drop_eq_getElem_cons hi, List.set_cons_zero, List.take_add_one, h]
 simp
theorem part_same (φ : Tr → Tr) (b : List Tr) (i : Nat) (s : Tr) (h : b[i]? = some s) (hs : φ s = s) : dpart φ b i = dpart φ b (i + 1) := by
 rw [← part_next φ b i s h, hs]
 obtain ⟨hl, he⟩ := List.getElem?_eq_some_iff.1 (part_at φ b i s h)
 conv => rhs; rw [← he]
 exact (List.set_getElem_self hl).symm
theorem part_all (φ : Tr → Tr) (b : List Tr) (i : Nat) (h : i = b.length) : dpart φ b i = b.map φ := by subst h; simp [dpart]
theorem cells3_set0 : ∀ (l : List Tr) (j : Nat) (s : Tr) (a : Int), l[j]? = some s → (cells3 l).set (j * 3) (.int .i64 a) = cells3 (l.set j (a, s.2.1, s.2.2))
 | [], j, s, a, h => by simp at h
 | t :: l, 0, s, a, h => by
  obtain rfl : t = s := by simpa using h
  rfl
 | t :: l, j + 1, s, a, h => by
  have := cells3_set0 l j s a (by simpa using h)
  rw [List.set_cons_succ, cells3_cons, cells3_cons, ← this, show (j + 1) * 3 = j * 3 + 1 + 1 + 1 by omega, List.set_cons_succ, List.set_cons_succ, List.set_cons_succ]
theorem cells3_set1 : ∀ (l : List Tr) (j : Nat) (s : Tr) (a : Int), l[j]? = some s → (cells3 l).set (j * 3 + 1) (.int .i64 a) = cells3 (l.set j (s.1, a, s.2.2))
 | [], j, s, a, h => by simp at h
 | t :: l, 0, s, a, h => by
  obtain rfl : t = s := by simpa using h
  rfl
 | t :: l, j + 1, s, a, h => by
  have := cells3_set1 l j s a (by simpa using h)
  rw [List.set_cons_succ, cells3_cons, cells3_cons, ← this, show (j + 1) * 3 + 1 = j * 3 + 1 + 1 + 1 + 1 by omega, List.set_cons_succ, List.set_cons_succ, List.set_cons_succ]
end Go.Proofs.Ytdmcgkcpclepfaa.DeferP
-- squeezed
