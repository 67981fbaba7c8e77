/- impl.UnwrapError and spec.UnwrapError return the parts of an error, in memory of the call's own. -/
import Derived.Test.YtkjgibhckcdneaaEran
import Derived.Test.YtkjgibhckcdneaaApp0
import Derived.Lib.SliceRun
namespace Go.Proofs.Ytkjgibhckcdneaa.ErU
set_option linter.unusedVariables false
set_option linter.unusedSimpArgs false
open Go.ChangeShapes Go.WideShapes Go.ChangeAt Go.RowKit
open Mem IntsP ErP ErM ErT ErA

theorem cellsI_one (xs : List Int) : ∀ u ∈ cellsI xs, u.oneCell' = true := by
  intro u hu
  simp only [cellsI, List.mem_map] at hu
  obtain ⟨z, _, rfl⟩ := hu
  rfl
/-- Where the error i of errors of one's own lies, and its parts. -/
theorem own_part {w : World} {lo n c : Nat} {A : Option Addr} {e : Er} {i : Nat} {s : En} (h : OwnE w lo (.slice A n c) e) (hx : e[i]? = some s) :
    ∃ g Ai ci, A = some ⟨g, 0, none⟩ ∧ lo ≤ g ∧ g < w.heap.size ∧ w.cell? ⟨g, i * 3, none⟩ = some (.int .i64 s.1) ∧ w.cell? ⟨g, i * 3 + 1, none⟩ = some (.int .i64 s.2.1) ∧
      w.cell? ⟨g, i * 3 + 2, none⟩ = some (.slice Ai s.2.2.length ci) ∧ w.ownsRow lo 3 1 (.slice Ai s.2.2.length ci) s.2.2.length (cellsI s.2.2) := by
  obtain ⟨vals, hl, ho, hr, _⟩ := h
  have hi' : i < e.length := (List.getElem?_eq_some_iff.1 hx).1
  obtain ⟨u, hu, hown⟩ := hr i s hx
  obtain ⟨Ai, ci, rfl⟩ := own_slice hown
  rcases own_form ho with ⟨h0, _⟩ | ⟨_, g, cap, hv, hlo, hg⟩
  · omega
  · simp only [Value.slice.injEq] at hv
    obtain ⟨rfl, rfl, rfl⟩ := hv
    obtain ⟨c0, c1, c2⟩ := cellsN_at vals i _ hu
    exact ⟨g, Ai, ci, rfl, hlo, hg, (ho.cellAt _ (by omega)).trans c0, (ho.cellAt _ (by omega)).trans c1, (ho.cellAt _ (by omega)).trans c2, hown⟩

def CopyR (xs : List Int) (n : Nat) (w : World) (e : Ending) (w' : World) : Prop := ∃ A' c', e = .returned (.slice A' n c') ∧ w'.ownsRow w.heap.size 3 1 (.slice A' n c') n (cellsI xs) ∧ Below w.heap.size w w'
theorem cloneI_any (lo n c : Nat) (A : Option Addr) (xs : List Int) (hn : n ≤ 1000000) (w : World) (ho : w.ownsRow lo 3 1 (.slice A n c) n (cellsI xs)) :
    Calls Try.prog 53 #[.slice A n c] w (CopyR xs n w) := by
  obtain ⟨i0, hi, hz0, hz1, hz2⟩ := info_parts info3
  have q := fun (w : World) (a : Option Addr) (n c n' c' : Nat) => Lib.run_eql_slice_nil (P := Try.prog) w _ _ a n c n' c' Try.underlying33
  have hO := Lib.hid ho
  rcases ho.2 with ⟨hv, rfl⟩ | ⟨g, cap, cur, hv, hB, hg, _⟩
  · simp only [Value.slice.injEq] at hv
    obtain ⟨rfl, _, rfl⟩ := hv
    clear ho
    have hxs : cellsI xs = [] := List.eq_nil_of_length_eq_zero (by simpa using hO.out.1)
    have HX := Lib.hid hxs
    clear hxs
    go_enter Try.func53, Try.ntmps53
    go_wp2
    go_ret
    exact ⟨_, _, rfl, by rw [HX.out]; exact ⟨rfl, .inl ⟨rfl, rfl⟩⟩, Below.refl _ _⟩
  · simp only [Value.slice.injEq, true_and] at hv
    obtain ⟨rfl, rfl⟩ := hv
    clear ho hg
    go_enter Try.func53, Try.ntmps53
    go_wp2_with (at_builtin; refine App.row_list _ rfl (.tmp 5) (.tmp 6) 33 rfl w.heap.size lo 3 i0 _ 1 8 Try.underlying33 hi hz0 hz1 hz2 rfl (by decide) (.slice (some ⟨w.heap.size, 0, none⟩) 0 0) 0 [] rfl (App.empty_own (heap1_0 w _) (Nat.le_refl _)) (.slice (some ⟨g, 0, none⟩) n c) n (cellsI xs) rfl (own_below hO.out ((App.Bl.refl w).alloc _) (Nat.le_refl _)) (cellsI_one xs) (by unfold maxLen; omega) (by omega) (by simp) ?_)
    intro v1 w1 o1 g1 t1
    have B1 : App.Bl w w1 := ((App.Bl.refl w).alloc _).grown g1 (fun x hx => Nat.le_of_eq (by simpa [Value.ownBlock] using hx))
    clear g1 t1
    obtain ⟨A1, c1, rfl⟩ := own_slice o1
    have O1 := Lib.hid o1
    clear o1
    go_wp2
    go_ret
    exact ⟨_, _, rfl, O1.out, B1⟩
theorem l1Own_any (lo n c : Nat) (A : Option Addr) (xs : List Int) (hn : n ≤ 1000000) (w : World) (ho : w.ownsRow lo 3 1 (.slice A n c) n (cellsI xs)) :
    Calls Try.prog 51 #[.slice A n c] w (CopyR xs n w) := by
  obtain ⟨i0, hi, hz0, hz1, hz2⟩ := info_parts info3
  have HO := Lib.hid ho
  clear ho
  go_enter Try.func51, Try.ntmps51
  go_wp2_with (at_builtin; refine App.row_list _ rfl (.tmp 3) (.tmp 4) 33 rfl w.heap.size lo 3 i0 _ 1 8 Try.underlying33 hi hz0 hz1 hz2 rfl (by decide) (.slice (some ⟨w.heap.size, 0, none⟩) 0 0) 0 [] rfl (App.empty_own (heap1_0 w _) (Nat.le_refl _)) (.slice A n c) n (cellsI xs) rfl (own_below HO.out ((App.Bl.refl w).alloc _) (Nat.le_refl _)) (cellsI_one xs) (by unfold maxLen; omega) (by omega) (by simp) ?_)
  intro v1 w1 o1 g1 t1
  have B1 : App.Bl w w1 := ((App.Bl.refl w).alloc _).grown g1 (fun x hx => Nat.le_of_eq (by simpa [Value.ownBlock] using hx))
  clear g1 t1
  obtain ⟨A1, c1, rfl⟩ := own_slice o1
  have O1 := Lib.hid o1
  clear o1
  go_wp2
  go_ret
  exact ⟨A1, c1, by simp, by simpa using O1.out, B1⟩

set_option maxHeartbeats 1000000 in
theorem unwI_any (lo n c : Nat) (A : Option Addr) (p : Er) (x : Int) (hn : n ≤ 2000000) (hl : p.length = n) (hsm : SmallE p 2000000) (w : World) (ho : OwnE w lo (.slice A n c) p) :
    Calls Try.prog 20 #[.agg #[.slice A n c], .int .i64 x] w (IntsR (unwrapR p x) w) := by
  have hF := Lib.hid (fun w hr hB => isErrorOf_any w.heap.size A n c p x (by omega) hl (hsm.mono (by omega)) w hr hB)
  have b1 : ∀ o : Obj, Below w.heap.size w (w.alloc o) := fun o => (Below.refl _ _).alloc (Nat.le_refl _) _
  have B1 := Lib.hid b1
  have hO := Lib.hid ho
  have hL := Lib.hid hl
  clear ho hl b1
  cases hfn : oneE p x with
  | false =>
    have hs := Lib.hid (show unwrapR p x = ([], false) by unfold unwrapR; rw [hfn]; rfl)
    rw [hfn] at hF
    clear hfn
    go_enter Try.func20, Try.ntmps20
    go_wp2_with fail
    refine (hF.out _ (hO.out.below (B1.out _)).rd (Nat.le_refl _)).mono ?_
    rintro e w1 ⟨rfl, b⟩
    have bb := Lib.hid ((B1.out (.cells #[.slice A n c] 29)).trans (b.mono (by simp)))
    go_wp2_with fail
    go_ret2
    rw [hs.out]
    exact ⟨_, 0, rfl, App.empty_own (heap1_0 w1 _) bb.out.size, bb.out.alloc bb.out.size _⟩
  | true =>
    obtain ⟨i, s, rfl, hin, hx, hok, _⟩ := oneE_at hfn
    have hs := Lib.hid (show unwrapR p i = (s.2.2, true) by unfold unwrapR; rw [hfn, Int.toNat_natCast, nodeE_at hx]; rfl)
    have hm12 := ok_many hok hx
    rw [hfn] at hF
    have HX := Lib.hid hx
    rw [hL.out] at hin
    clear hfn hx hok
    go_enter Try.func20, Try.ntmps20
    go_wp2_with fail
    refine (hF.out _ (hO.out.below (B1.out _)).rd (Nat.le_refl _)).mono ?_
    rintro e w1 ⟨rfl, b⟩
    have z0 : w1.cell? ⟨w.heap.size, 0, none⟩ = some (.slice A n c) := (b.cell (p := ⟨w.heap.size, 0, none⟩) (by simp)).trans (by simp [go_sem])
    have bb := Lib.hid ((B1.out (.cells #[.slice A n c] 29)).trans (b.mono (by simp)))
    have s1 := b.size
    obtain ⟨g, Ai, ci, rfl, _, hg, _, _, c2, ho2⟩ := own_part (hO.out.below bb.out) HX.out
    have HO2 := Lib.hid ho2
    clear ho2 b
    go_wp2_with fail
    refine (cloneI_any lo _ ci Ai s.2.2 (by omega) _ HO2.out).mono ?_
    rintro e w2 ⟨A2, c2', rfl, o2, b2⟩
    have O2 := Lib.hid (own_mono (B' := w.heap.size) o2 bb.out.size)
    have bb2 := Lib.hid (bb.out.trans (b2.mono bb.out.size))
    clear o2 b2
    go_wp2_with fail
    go_ret2
    rw [hs.out]
    exact ⟨A2, c2', rfl, O2.out, bb2.out⟩
set_option maxHeartbeats 1000000 in
theorem unwS_any (lo n c : Nat) (A : Option Addr) (p : Er) (x : Int) (hn : n ≤ 2000000) (hl : p.length = n) (hsm : SmallE p 2000000) (w : World) (ho : OwnE w lo (.slice A n c) p) :
    Calls Try.prog 19 #[.agg #[.slice A n c], .int .i64 x] w (IntsR (unwrapR p x) w) := by
  have hF := Lib.hid (fun w hr hB => l6One_any w.heap.size A n c p x (by omega) hl (hsm.mono (by omega)) w hr hB)
  have b1 : ∀ o : Obj, Below w.heap.size w (w.alloc o) := fun o => (Below.refl _ _).alloc (Nat.le_refl _) _
  have B1 := Lib.hid b1
  have hO := Lib.hid ho
  have hL := Lib.hid hl
  clear ho hl b1
  cases hfn : oneE p x with
  | false =>
    have hs := Lib.hid (show unwrapR p x = ([], false) by unfold unwrapR; rw [hfn]; rfl)
    rw [hfn] at hF
    clear hfn
    go_enter Try.func19, Try.ntmps19
    go_wp2_with fail
    refine (hF.out _ (hO.out.below (B1.out _)).rd (Nat.le_refl _)).mono ?_
    rintro e w1 ⟨rfl, b⟩
    have bb := Lib.hid ((B1.out (.cells #[.slice A n c] 29)).trans (b.mono (by simp)))
    go_wp2_with fail
    go_ret2
    rw [hs.out]
    exact ⟨_, 0, rfl, App.empty_own (heap1_0 w1 _) bb.out.size, bb.out.alloc bb.out.size _⟩
  | true =>
    obtain ⟨i, s, rfl, hin, hx, hok, _⟩ := oneE_at hfn
    have hs := Lib.hid (show unwrapR p i = (s.2.2, true) by unfold unwrapR; rw [hfn, Int.toNat_natCast, nodeE_at hx]; rfl)
    have hm12 := ok_many hok hx
    rw [hfn] at hF
    have HX := Lib.hid hx
    rw [hL.out] at hin
    clear hfn hx hok
    go_enter Try.func19, Try.ntmps19
    go_wp2_with fail
    refine (hF.out _ (hO.out.below (B1.out _)).rd (Nat.le_refl _)).mono ?_
    rintro e w1 ⟨rfl, b⟩
    have z0 : w1.cell? ⟨w.heap.size, 0, none⟩ = some (.slice A n c) := (b.cell (p := ⟨w.heap.size, 0, none⟩) (by simp)).trans (by simp [go_sem])
    have bb := Lib.hid ((B1.out (.cells #[.slice A n c] 29)).trans (b.mono (by simp)))
    have s1 := b.size
    obtain ⟨g, Ai, ci, rfl, _, hg, _, _, c2, ho2⟩ := own_part (hO.out.below bb.out) HX.out
    have HO2 := Lib.hid ho2
    clear ho2 b
    go_wp2_with fail
    refine (l1Own_any lo _ ci Ai s.2.2 (by omega) _ HO2.out).mono ?_
    rintro e w2 ⟨A2, c2', rfl, o2, b2⟩
    have O2 := Lib.hid (own_mono (B' := w.heap.size) o2 bb.out.size)
    have bb2 := Lib.hid (bb.out.trans (b2.mono bb.out.size))
    clear o2 b2
    go_wp2_with fail
    go_ret2
    rw [hs.out]
    exact ⟨A2, c2', rfl, O2.out, bb2.out⟩
theorem unw_len (p : Er) (x : Int) : (unwrapR p x).1.length ≤ 100000 := by
  unfold unwrapR
  cases hfn : oneE p x with
  | false => simp
  | true =>
    obtain ⟨i, s, rfl, hin, hx, hok, _⟩ := oneE_at hfn
    have := ok_many hok hx
    simp only [if_true, Int.toNat_natCast, nodeE_at hx]
    omega
end Go.Proofs.Ytkjgibhckcdneaa.ErU
