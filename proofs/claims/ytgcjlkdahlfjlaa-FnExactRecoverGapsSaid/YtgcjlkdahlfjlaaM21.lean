/- Pmem Psf Pw Px Py, in one text. -/
import Derived.Test.YtgcjlkdahlfjlaaM20
import Derived.Test.YtgcjlkdahlfjlaaM24
import Derived.Test.YtgcjlkdahlfjlaaM3
import Derived.Test.YtgcjlkdahlfjlaaM12
import Derived.Test.YtgcjlkdahlfjlaaM4
import Derived.Deep.AppendLies
set_option linter.unusedVariables false
set_option linter.unusedSimpArgs false
/- The model's reading of a trace's panics in memory. (Written by wip/tools/genpsf.py.) -/
namespace Go.Proofs.Ytgcjlkdahlfjlaa.PMem
open Go.ChangeShapes Go.WideShapes Go.ChangeAt Go.RowKit
open PL Mem Srun Sst IntsP RowA

structure Sl where
 A : Option Addr
 n : Nat
 c : Nat
abbrev Sl.v (q : Sl) : Value := .slice q.A q.n q.c
abbrev cellsR (q0 q1 q2 q3 q4 q5 q6 : Sl) : Array Value := #[.slice q0.A q0.n q0.c, .slice q1.A q1.n q1.c, .slice q2.A q2.n q2.c, .slice q3.A q3.n q3.c, .slice q4.A q4.n q4.c, .slice q5.A q5.n q5.c, .slice q6.A q6.n q6.c]
abbrev z7 : Array Value := #[.slice none 0 0, .slice none 0 0, .slice none 0 0, .slice none 0 0, .slice none 0 0, .slice none 0 0, .slice none 0 0]
theorem Blk.set7 {w : World} {g : Nat} {t : TypeId} {a0 a1 a2 a3 a4 a5 a6 : Value} (h : Blk w g t #[a0, a1, a2, a3, a4, a5, a6]) (u0 u1 u2 u3 u4 u5 u6 : Value) : Blk (((((((w.setCell ⟨g, 0, none⟩ u0).setCell ⟨g, 1, none⟩ u1).setCell ⟨g, 2, none⟩ u2).setCell ⟨g, 3, none⟩ u3).setCell ⟨g, 4, none⟩ u4).setCell ⟨g, 5, none⟩ u5).setCell ⟨g, 6, none⟩ u6) g t #[u0, u1, u2, u3, u4, u5, u6] := by
 have := ((((((h.put 0 u0).put 1 u1).put 2 u2).put 3 u3).put 4 u4).put 5 u5).put 6 u6
 simpa only [List.setIfInBounds_toArray, List.set_cons_zero, List.set_cons_succ] using this
def d2 (x : Bool × Int) : List Value := [.bool x.1, .int .i64 x.2]
def cellsD (l : List (Bool × Int)) : List Value := l.flatMap d2
theorem cellsD_cons (s : Bool × Int) (l : List (Bool × Int)) : cellsD (s :: l) = d2 s ++ cellsD l := by simp [cellsD]
theorem cellsD_append (a b : List (Bool × Int)) : cellsD (a ++ b) = cellsD a ++ cellsD b := by simp [cellsD]
theorem cellsD_length (l : List (Bool × Int)) : (cellsD l).length = l.length * 2 := by
 induction l with
 | nil => rfl
 | cons s l ih => rw [cellsD_cons, List.length_append, List.length_cons, ih]; show 2 + _ = _; omega
theorem cellsD_one (l : List (Bool × Int)) : ∀ u ∈ cellsD l, u.oneCell' = true := by
 intro u hu
 simp only [cellsD, List.mem_flatMap] at hu
 obtain ⟨x, _, hx⟩ := hu
 simp only [d2, List.mem_cons, List.mem_nil_iff, or_false] at hx
 rcases hx with rfl | rfl <;> rfl
theorem cellsD_at : ∀ (l : List (Bool × Int)) (j : Nat) (s : Bool × Int), l[j]? = some s → (cellsD l)[j * 2]? = some (.bool s.1) ∧ (cellsD l)[j * 2 + 1]? = some (.int .i64 s.2)
 | [], j, s, h => by simp at h
 | a :: l, 0, s, h => by
  obtain rfl : a = s := by simpa using h
  rw [cellsD_cons]
  exact ⟨rfl, rfl⟩
 | a :: l, j + 1, s, h => by
  obtain ⟨h1, h2⟩ := cellsD_at l j s (by simpa using h)
  rw [cellsD_cons]
  refine ⟨?_, ?_⟩
  ·rw [List.getElem?_append_right (by show 2 ≤ _; omega), show (d2 a).length = 2 from rfl, show (j + 1) * 2 - 2 = j * 2 by omega]; exact h1
  ·rw [List.getElem?_append_right (by show 2 ≤ _; omega), show (d2 a).length = 2 from rfl, show (j + 1) * 2 + 1 - 2 = j * 2 + 1 by omega]; exact h2
theorem cellsD_put : ∀ (l : List (Bool × Int)) (j : Nat) (s : Bool × Int) (x : Int), l[j]? = some s → (cellsD l).set (j * 2 + 1) (.int .i64 x) = cellsD (l.set j (s.1, x))
 | [], j, s, x, h => by simp at h
 | a :: l, 0, s, x, h => by
  obtain rfl : a = s := by simpa using h
  rw [cellsD_cons, List.set_cons_zero, cellsD_cons]
  rfl
 | a :: l, j + 1, s, x, h => by
  have := cellsD_put l j s x (by simpa using h)
  rw [cellsD_cons, List.set_append_right _ _ (by show 2 ≤ _; omega), show (d2 a).length = 2 from rfl, show (j + 1) * 2 + 1 - 2 = j * 2 + 1 by omega, this, List.set_cons_succ, cellsD_cons]
theorem infoD : (Try.prog.info? 157).map (fun i => (i.zero, i.size, i.bytes)) = some (some (.agg #[.bool false, .int .i64 0]), 2, 16) := by kernel_rfl
theorem infoT3 : (Try.prog.info? 79).map (fun i => (i.zero, i.size, i.bytes)) = some (some (.agg #[.int .i64 0, .int .i64 0, .int .i64 0]), 3, 24) := by kernel_rfl
theorem infoSI : (Try.prog.info? 38).map (fun i => (i.zero, i.size, i.bytes)) = some (some (.slice none 0 0), 1, 24) := by kernel_rfl
theorem cells3_one' (xs : List Tr) : ∀ u ∈ cells3 xs, u.oneCell' = true := by
 intro u hu
 simp only [cells3, List.mem_flatMap] at hu
 obtain ⟨x, _, hx⟩ := hu
 simp only [c3, List.mem_cons, List.mem_nil_iff, or_false] at hx
 rcases hx with rfl | rfl | rfl <;> rfl
def onI (o : Option Nat) : Int := match o with
 | none => -1
 | some k => k
def ec (a : Ent) : Bool × Int := (a.dfr, onI a.on)
def callsOf (stk : List Ent) : List (Bool × Int) := (stk.map ec).reverse
theorem callsOf_cons (a : Ent) (O : List Ent) : callsOf (a :: O) = callsOf O ++ [ec a] := by simp [callsOf]
theorem callsOf_len (O : List Ent) : (callsOf O).length = O.length := by simp [callsOf]
def p3 (x : PF) : Tr := (x.f, x.v, x.fate)
end Go.Proofs.Ytgcjlkdahlfjlaa.PMem

/- The model's l1Own, l4Top, l4Fate. (Written by wip/tools/genpsf.py.) -/
namespace Go.Proofs.Ytgcjlkdahlfjlaa.Psf
open Go.ChangeShapes Go.WideShapes Go.ChangeAt Go.RowKit
open PL Mem Srun Sst IntsP RowA Swhole PMem

theorem set_self' {α : Type} {l : List α} {i : Nat} {x : α} (h : l[i]? = some x) : l.set i x = l := by
 obtain ⟨hi, rfl⟩ := List.getElem?_eq_some_iff.1 h
 simp
theorem own_blk_ne' {V : World} {B e sz n g b cap : Nat} {t : TypeId} {xs : List Value} {cs : Array Value} (h : V.ownsRow B e sz (.slice (some ⟨b, 0, none⟩) n cap) n xs) (hg : Blk V g t cs) (hne : e ≠ t) : g ≠ b := fun e' => App.own_blk_ne h hg hne (by rw [e']; rfl)
theorem own_third {w : World} {B e n g cap k : Nat} {ps : List Tr} {s : Tr} (h : w.ownsRow B e 3 (.slice (some ⟨g, 0, none⟩) n cap) n (cells3 ps)) (hs : ps[k]? = some s) (x : Int) :
  (w.setCell ⟨g, k * 3 + 2, none⟩ (.int .i64 x)).ownsRow B e 3 (.slice (some ⟨g, 0, none⟩) n cap) n (cells3 (ps.set k (s.1, s.2.1, x))) := by
 have h1 := (h.stored (k * 3 + 2) (.int .i64 x)).1
 have hk : k < ps.length := (List.getElem?_eq_some_iff.1 hs).1
 obtain ⟨a0, a1, a2⟩ := cells3_at ps k s hs
 have h2 : (cells3 ps).set (k * 3 + 2) (.int .i64 x) = cells3 (ps.set k (s.1, s.2.1, x)) := by
  have h3 := cells3_set ps k (s.1, s.2.1, x) hk
  rw [← h3]
  have e0 : (cells3 ps).set (k * 3) (.int .i64 s.1) = cells3 ps := set_self' a0
  have e1 : (cells3 ps).set (k * 3 + 1) (.int .i64 s.2.1) = cells3 ps := set_self' a1
  dsimp only
  rw [e0, e1]
 rwa [h2] at h1
theorem l1Own_any (lo : Nat) (A : Option Addr) (n c : Nat) (xs : List Int) (hn : n ≤ 1000000) (hl : xs.length = n) (w : World) (ho : OwnI w lo (.slice A n c) xs) :
  Calls Try.prog 143 #[.slice A n c] w fun e w' => ∃ A' c', e = .returned (.slice A' n c') ∧ OwnI w' w.heap.size (.slice A' n c') xs ∧ Below w.heap.size w w' := by
 obtain ⟨i0, hi, hz0, hz1, hz2⟩ := info_parts info3
 unfold OwnI at ho
 rw [hl] at ho
 have hone : ∀ u ∈ cellsI xs, u.oneCell' = true := by
  intro u hu
  simp only [cellsI, List.mem_map] at hu
  obtain ⟨z, _, rfl⟩ := hu
  rfl
 have HO := Lib.hid ho
 have HL := Lib.hid hl
 clear ho hl
 go_enter Try.func143, Try.ntmps143
 go_wp2_with (at_builtin; refine App.row_list _ rfl (.tmp 3) (.tmp 4) 38 rfl w.heap.size lo 3 i0 _ 1 8 Try.underlying38 hi hz0 hz1 hz2 rfl (by decide) (.slice (some ⟨w.heap.size, 0, none⟩) 0 0) 0 [] rfl (App.empty_own (heap1_0 w _) (Nat.le_refl _)) (.slice A n c) n (cellsI xs) rfl (own_below HO.out ((App.Bl.refl w).alloc _) (Nat.le_refl _)) hone (by unfold maxLen; omega) (by omega) (by simp) ?_)
 intro v1 w1 o1 g1 t1
 have B1 : App.Bl w w1 := ((App.Bl.refl w).alloc _).grown g1 (fun x hx => Nat.le_of_eq (by simpa [Value.ownBlock] using hx))
 clear g1 t1
 obtain ⟨A1, c1, rfl⟩ := own_slice o1
 have O1 := Lib.hid o1
 clear o1
 go_wp2
 go_ret
 refine ⟨A1, c1, by simp, ?_, B1⟩
 have := O1.out
 unfold OwnI
 rw [HL.out]
 simpa using this

set_option maxRecDepth 100000 in
set_option maxHeartbeats 4000000 in
theorem l4Top_any (lo m : Nat) (q0 q1 q2 q3 q4 q5 q6 : Sl) (pre : List (Bool × Int)) (d : Bool) (y x : Int) (w : World) (hn : q0.n = m + 1) (hm : pre.length = m) (hle : m ≤ 1000000) (hc : w.ownsRow lo 157 2 (.slice q0.A q0.n q0.c) (m + 1) (cellsD (pre ++ [(d, y)]))) :
  Calls Try.prog 141 #[.agg (cellsR q0 q1 q2 q3 q4 q5 q6), .int .i64 x] w fun e w' => ∃ A' c', e = .returned (.agg (cellsR ⟨A', m + 1, c'⟩ q1 q2 q3 q4 q5 q6)) ∧ w'.ownsRow w.heap.size 157 2 (.slice A' (m + 1) c') (m + 1) (cellsD (pre ++ [(d, x)])) ∧ Below w.heap.size w w' := by
 obtain ⟨i0, hi, hz0, hz1, hz2⟩ := info_parts infoD
 obtain ⟨A0, n0, c0⟩ := q0
 dsimp only at hn hc
 obtain rfl := hn
 have HC := Lib.hid hc
 have HM := Lib.hid hm
 clear hc hm
 go_enter Try.func141, Try.ntmps141
 go_upto_region 1 with fail
 change (fun V => Code.wp _ _ _ _ V) _
 refine gen_world (X := fun V => Blk V w.heap.size 61 (cellsR ⟨A0, m + 1, c0⟩ q1 q2 q3 q4 q5 q6) ∧ Blk V (w.heap.size + 1) 61 z7 ∧ Below w.heap.size w V ∧ V.ownsRow lo 157 2 (.slice A0 (m + 1) c0) (m + 1) (cellsD (pre ++ [(d, y)]))) ⟨heap2_0 w _ _, heap2_1 w _ _, ((Below.refl _ _).alloc (Nat.le_refl _) _).alloc (by simp) _, World.ownsRow.alloc (World.ownsRow.alloc HC.out _) _⟩ ?_
 clear HC
 rintro V ⟨x0, x1, bV, oV⟩
 have z0 : V.cell? ⟨w.heap.size, 0, none⟩ = some (.slice A0 (m + 1) c0) := x0.cells 0
 have hsz := bV.size
 have hlt0 := x0.lt
 have hlt1 := x1.lt
 have X0 := Lib.hid x0
 have X1 := Lib.hid x1
 have BV := Lib.hid bV
 have OV := Lib.hid oV
 clear x0 x1 bV oV
 go_wp2_with (at_builtin; refine App.row_list _ rfl (.tmp 6) (.tmp 8) 58 rfl w.heap.size lo 157 i0 _ 2 16 Try.underlying58 hi hz0 hz1 hz2 rfl (by decide) (.slice (some ⟨V.heap.size, 0, none⟩) 0 0) 0 [] rfl (App.empty_own (heap1_0 V _) hsz) (.slice A0 (m + 1) c0) (m + 1) (cellsD (pre ++ [(d, y)])) rfl (World.ownsRow.alloc OV.out _) (cellsD_one _) (by unfold maxLen; omega) (by omega) (by simp <;> omega) ?_)
 intro v1 w1 o1 g1 t1
 have b1 : Below V.heap.size V w1 := ((App.Bl.refl V).alloc _).grown g1 (fun k hk => Nat.le_of_eq (by simpa [Value.ownBlock] using hk))
 obtain ⟨A1, c1, rfl⟩ := own_slice o1
 have hform := own_form o1
 have Y0 := Lib.hid (X0.out.below b1 X0.out.lt)
 have Y1 := Lib.hid (X1.out.below b1 X1.out.lt)
 have B1 := Lib.hid (BV.out.trans (b1.mono hsz))
 clear g1 t1 z0 X0 X1 BV OV b1
 rcases hform with ⟨h0, _⟩ | ⟨_, g, cap, hv, hg1, hg2⟩
 ·omega
 simp only [Value.slice.injEq, true_and] at hv
 obtain ⟨rfl, rfl⟩ := hv
 have hc1 : w1.cell? ⟨g, m * 2 + 1, none⟩ = some (.int .i64 y) := (o1.cellAt _ (by omega)).trans (cellsD_at _ m (d, y) (by rw [← HM.out]; simp)).2
 have fz := o1.frozenAt
 have O1 := Lib.hid o1
 have hmm : ((m + 1 : Nat) : Int) - 1 = (m : Int) := by omega
 clear o1
 go_upto_region 3 with fail
 change (fun V => Code.wp _ _ _ _ V) _
 refine gen_world (X := fun V => Blk V w.heap.size 61 (cellsR ⟨A0, m + 1, c0⟩ q1 q2 q3 q4 q5 q6) ∧ Blk V (w.heap.size + 1) 61 z7 ∧ Below w.heap.size w V ∧ V.ownsRow w.heap.size 157 2 (.slice (some ⟨g, 0, none⟩) (m + 1) c1) (m + 1) (cellsD (pre ++ [(d, x)]))) ⟨Y0.out.far _ _ (fun e => own_blk_ne' O1.out Y0.out (by decide) e), Y1.out.far _ _ (fun e => own_blk_ne' O1.out Y1.out (by decide) e), B1.out.setCell (p := ⟨g, m * 2 + 1, none⟩) hg1 _, ?_⟩ ?_
 ·have h1 := (O1.out.stored (m * 2 + 1) (.int .i64 x)).1
  rw [cellsD_put _ m (d, y) x (by rw [← HM.out]; simp), List.set_append_right _ _ (by rw [HM.out]; exact Nat.le_refl _), HM.out, Nat.sub_self] at h1
  exact h1
 clear Y0 Y1 B1 O1 hc1 fz
 rintro Z ⟨x0, x1, bZ, oZ⟩
 have z0 := x0.cells
 have f0 := x0.frozen
 have z1 := x1.cells
 have f1 := x1.frozen
 have X0 := Lib.hid x0
 have X1 := Lib.hid x1
 have BZ := Lib.hid bZ
 have OZ := Lib.hid oZ
 clear x0 x1 bZ oZ
 go_upto_region 4 with fail
 change (fun V => Code.wp _ _ _ _ V) _
 refine gen_world (X := fun V => Blk V w.heap.size 61 (cellsR ⟨some ⟨g, 0, none⟩, m + 1, c1⟩ q1 q2 q3 q4 q5 q6) ∧ Blk V (w.heap.size + 1) 61 z7 ∧ Below w.heap.size w V ∧ V.ownsRow w.heap.size 157 2 (.slice (some ⟨g, 0, none⟩) (m + 1) c1) (m + 1) (cellsD (pre ++ [(d, x)]))) ⟨(by have := X0.out.put 0 (.slice (some ⟨g, 0, none⟩) (m + 1) c1); simpa only [List.setIfInBounds_toArray, List.set_cons_zero] using this), X1.out.far _ _ (by show w.heap.size + 1 ≠ w.heap.size; omega), BZ.out.setCell (p := ⟨w.heap.size, 0, none⟩) (Nat.le_refl _) _, own_far OZ.out _ _ (App.own_blk_ne OZ.out X0.out (by decide))⟩ ?_
 clear X0 X1 BZ OZ z0 f0 z1 f1
 rintro Z2 ⟨x0, x1, bZ, oZ⟩
 have z0 := x0.cells
 have z1 := x1.cells
 have f1 := x1.frozen
 have X1 := Lib.hid x1
 have BZ := Lib.hid bZ
 have OZ := Lib.hid oZ
 clear x0 x1 bZ oZ
 go_wp2_with fail
 refine gen_post (X := fun V => Blk V (w.heap.size + 1) 61 (cellsR ⟨some ⟨g, 0, none⟩, m + 1, c1⟩ q1 q2 q3 q4 q5 q6) ∧ Below w.heap.size w V ∧ V.ownsRow w.heap.size 157 2 (.slice (some ⟨g, 0, none⟩) (m + 1) c1) (m + 1) (cellsD (pre ++ [(d, x)]))) ⟨Blk.set7 X1.out _ _ _ _ _ _ _, ?_, ?_⟩ ?_
 ·iterate 7 refine Below.setCell ?_ (Nat.le_succ _) _
  exact BZ.out
 ·have n2 := App.own_blk_ne OZ.out X1.out (by decide)
  iterate 7 refine own_far ?_ _ _ n2
  exact OZ.out
 clear z0 z1 f1 X1 BZ OZ
 intro V hV
 have V1 := hV.1.cells
 have HV := Lib.hid hV.2
 clear hV
 exact bodyPost_ret (v := .agg (cellsR ⟨some ⟨g, 0, none⟩, m + 1, c1⟩ q1 q2 q3 q4 q5 q6)) (by simp [results, Try.results141, go_sem, V1]) rfl ⟨_, _, rfl, HV.out.2, HV.out.1⟩

set_option maxRecDepth 100000 in
set_option maxHeartbeats 4000000 in
theorem l4Fate_any (lo n k : Nat) (q0 q1 q2 q3 q4 q5 q6 : Sl) (ps : List Tr) (s : Tr) (x : Int) (w : World) (hn : q1.n = n) (hl : ps.length = n) (hle : n ≤ 1000000) (hk : ps[k]? = some s) (hc : w.ownsRow lo 79 3 (.slice q1.A q1.n q1.c) n (cells3 ps)) :
  Calls Try.prog 142 #[.agg (cellsR q0 q1 q2 q3 q4 q5 q6), .int .i64 k, .int .i64 x] w fun e w' => ∃ A' c', e = .returned (.agg (cellsR q0 ⟨A', n, c'⟩ q2 q3 q4 q5 q6)) ∧ w'.ownsRow w.heap.size 79 3 (.slice A' n c') n (cells3 (ps.set k (s.1, s.2.1, x))) ∧ Below w.heap.size w w' := by
 obtain ⟨i0, hi, hz0, hz1, hz2⟩ := info_parts infoT3
 obtain ⟨A0, n0, c0⟩ := q1
 dsimp only at hn hc
 obtain rfl := hn
 have hkl : k < ps.length := (List.getElem?_eq_some_iff.1 hk).1
 rw [hl] at hkl
 have HC := Lib.hid hc
 have HK := Lib.hid hk
 have HL := Lib.hid hl
 clear hc hk hl
 go_enter Try.func142, Try.ntmps142
 go_upto_region 1 with fail
 change (fun V => Code.wp _ _ _ _ V) _
 refine gen_world (X := fun V => Blk V w.heap.size 61 (cellsR q0 ⟨A0, n0, c0⟩ q2 q3 q4 q5 q6) ∧ Blk V (w.heap.size + 1) 61 z7 ∧ Below w.heap.size w V ∧ V.ownsRow lo 79 3 (.slice A0 n0 c0) n0 (cells3 ps)) ⟨heap2_0 w _ _, heap2_1 w _ _, ((Below.refl _ _).alloc (Nat.le_refl _) _).alloc (by simp) _, World.ownsRow.alloc (World.ownsRow.alloc HC.out _) _⟩ ?_
 clear HC
 rintro V ⟨x0, x1, bV, oV⟩
 have z0 := x0.cells
 have f0 := x0.frozen
 have hsz := bV.size
 have hlt0 := x0.lt
 have hlt1 := x1.lt
 have X0 := Lib.hid x0
 have X1 := Lib.hid x1
 have BV := Lib.hid bV
 have OV := Lib.hid oV
 clear x0 x1 bV oV
 go_wp2_with (at_builtin; refine App.row_list _ rfl (.tmp 7) (.tmp 9) 26 rfl w.heap.size lo 79 i0 _ 3 24 Try.underlying26 hi hz0 hz1 hz2 rfl (by decide) (.slice (some ⟨V.heap.size, 0, none⟩) 0 0) 0 [] rfl (App.empty_own (heap1_0 V _) hsz) (.slice A0 n0 c0) n0 (cells3 ps) rfl (World.ownsRow.alloc OV.out _) (cells3_one' ps) (by unfold maxLen; omega) (by omega) (by simp <;> omega) ?_)
 intro v1 w1 o1 g1 t1
 have b1 : Below V.heap.size V w1 := ((App.Bl.refl V).alloc _).grown g1 (fun k hk => Nat.le_of_eq (by simpa [Value.ownBlock] using hk))
 obtain ⟨A1, c1, rfl⟩ := own_slice o1
 have hform := own_form o1
 have y0 := X0.out.below b1 X0.out.lt
 have z0 := y0.cells
 have f0 := y0.frozen
 have Y0 := Lib.hid y0
 have Y1 := Lib.hid (X1.out.below b1 X1.out.lt)
 have B1 := Lib.hid (BV.out.trans (b1.mono hsz))
 clear g1 t1 X0 X1 BV OV b1 y0
 rcases hform with ⟨h0, _⟩ | ⟨_, g, cap, hv, hg1, hg2⟩
 ·omega
 simp only [Value.slice.injEq, true_and] at hv
 obtain ⟨rfl, rfl⟩ := hv
 have O1 := Lib.hid o1
 clear o1
 go_upto_region 2 with fail
 change (fun V => Code.wp _ _ _ _ V) _
 refine gen_world (X := fun V => Blk V w.heap.size 61 (cellsR q0 ⟨some ⟨g, 0, none⟩, n0, c1⟩ q2 q3 q4 q5 q6) ∧ Blk V (w.heap.size + 1) 61 z7 ∧ Below w.heap.size w V ∧ V.ownsRow w.heap.size 79 3 (.slice (some ⟨g, 0, none⟩) n0 c1) n0 (cells3 ps)) ⟨(by have := Y0.out.put 1 (.slice (some ⟨g, 0, none⟩) n0 c1); simpa only [List.setIfInBounds_toArray, List.set_cons_zero, List.set_cons_succ] using this), Y1.out.far _ _ (by show w.heap.size + 1 ≠ w.heap.size; omega), B1.out.setCell (p := ⟨w.heap.size, 1, none⟩) (Nat.le_refl _) _, own_far O1.out _ _ (App.own_blk_ne O1.out Y0.out (by decide))⟩ ?_
 clear Y0 Y1 B1 O1 z0 f0
 rintro Z ⟨x0, x1, bZ, oZ⟩
 have z0 := x0.cells
 have f0 := x0.frozen
 have hc2 : Z.cell? ⟨g, k * 3 + 2, none⟩ = some (.int .i64 s.2.2) := (oZ.cellAt _ (by omega)).trans (cells3_at _ _ _ HK.out).2.2
 have fz := oZ.frozenAt
 have X0 := Lib.hid x0
 have X1 := Lib.hid x1
 have BZ := Lib.hid bZ
 have OZ := Lib.hid oZ
 clear x0 x1 bZ oZ
 go_upto_region 3 with fail
 change (fun V => Code.wp _ _ _ _ V) _
 refine gen_world (X := fun V => Blk V w.heap.size 61 (cellsR q0 ⟨some ⟨g, 0, none⟩, n0, c1⟩ q2 q3 q4 q5 q6) ∧ Blk V (w.heap.size + 1) 61 z7 ∧ Below w.heap.size w V ∧ V.ownsRow w.heap.size 79 3 (.slice (some ⟨g, 0, none⟩) n0 c1) n0 (cells3 (ps.set k (s.1, s.2.1, x)))) ⟨X0.out.far _ _ (fun e => own_blk_ne' OZ.out X0.out (by decide) e), X1.out.far _ _ (fun e => own_blk_ne' OZ.out X1.out (by decide) e), BZ.out.setCell (p := ⟨g, k * 3 + 2, none⟩) hg1 _, own_third OZ.out HK.out x⟩ ?_
 clear X0 X1 BZ OZ z0 f0 hc2 fz
 rintro Z2 ⟨x0, x1, bZ, oZ⟩
 have z0 := x0.cells
 have z1 := x1.cells
 have f1 := x1.frozen
 have X1 := Lib.hid x1
 have BZ := Lib.hid bZ
 have OZ := Lib.hid oZ
 clear x0 x1 bZ oZ
 go_wp2_with fail
 refine gen_post (X := fun V => Blk V (w.heap.size + 1) 61 (cellsR q0 ⟨some ⟨g, 0, none⟩, n0, c1⟩ q2 q3 q4 q5 q6) ∧ Below w.heap.size w V ∧ V.ownsRow w.heap.size 79 3 (.slice (some ⟨g, 0, none⟩) n0 c1) n0 (cells3 (ps.set k (s.1, s.2.1, x)))) ⟨Blk.set7 X1.out _ _ _ _ _ _ _, ?_, ?_⟩ ?_
 ·iterate 7 refine Below.setCell ?_ (Nat.le_succ _) _
  exact BZ.out
 ·have n2 := App.own_blk_ne OZ.out X1.out (by decide)
  iterate 7 refine own_far ?_ _ _ n2
  exact OZ.out
 clear z0 z1 f1 X1 BZ OZ
 intro V hV
 have V1 := hV.1.cells
 have HV := Lib.hid hV.2
 clear hV
 exact bodyPost_ret (v := .agg (cellsR q0 ⟨some ⟨g, 0, none⟩, n0, c1⟩ q2 q3 q4 q5 q6)) (by simp [results, Try.results142, go_sem, V1]) rfl ⟨_, _, rfl, HV.out.2, HV.out.1⟩
end Go.Proofs.Ytgcjlkdahlfjlaa.Psf

/- The model's reading of panics in memory. (Written by wip/tools/genpw.py.) -/
namespace Go.Proofs.Ytgcjlkdahlfjlaa.Pw
open Go.ChangeShapes Go.WideShapes Go.ChangeAt Go.RowKit
open PL Mem Srun Sst IntsP RowA PMem Psf

structure Hd where
 A : Option Addr
 c : Nat
def pdep (x : PF) : Int := x.depth
abbrev recV (h0 h1 h2 h3 h4 h5 h6 : Hd) (s : MS) : Array Value := #[.slice h0.A s.stk.length h0.c, .slice h1.A s.pan.length h1.c, .slice h2.A s.pan.length h2.c, .slice h3.A s.pan.length h3.c, .slice h4.A s.rcv.length h4.c, .slice h5.A s.pan.length h5.c, .slice h6.A s.pan.length h6.c]
def Apt (a b : Value) : Prop := ∀ k, a.ownBlock = some k → b.ownBlock ≠ some k
theorem slice_own (A : Option Addr) (n c n' c' : Nat) : (Value.slice A n c).ownBlock = (Value.slice A n' c').ownBlock := by cases A <;> rfl
theorem Apt.len {A B : Option Addr} {n c n' c' m d m' d' : Nat} (h : Apt (.slice A n c) (.slice B m d)) : Apt (.slice A n' c') (.slice B m' d') := fun k hk hk' => h k ((slice_own A n c n' c').trans hk) ((slice_own B m d m' d').trans hk')
theorem apt_new {V V' : World} {e sz n B' e' sz' n' : Nat} {a b : Value} {xs xs' : List Value} (ha : V'.ownsRow V.heap.size e sz a n xs) (hb : V.ownsRow B' e' sz' b n' xs') : Apt a b := fun k hk hk' => by
 have := (World.ownsRow.lt ha k hk).1
 have := (World.ownsRow.lt hb k hk').2
 omega
def UnwR (V : World) (lo : Nat) (v v2 v5 v6 : Value) (bys : List (List Int)) : Prop :=
 ∃ vals : List Value, V.ownsRow lo 38 1 v bys.length vals ∧ ∀ (i : Nat) (xs : List Int), bys[i]? = some xs → ∃ A c, vals[i]? = some (.slice A xs.length c) ∧ V.ownsRow lo 3 1 (.slice A xs.length c) xs.length (cellsI xs) ∧ Apt (.slice A xs.length c) v2 ∧ Apt (.slice A xs.length c) v5 ∧ Apt (.slice A xs.length c) v6
structure W4 (V : World) (lo : Nat) (h0 h1 h2 h3 h4 h5 h6 : Hd) (s : MS) : Prop where
 calls : V.ownsRow lo 157 2 (.slice h0.A s.stk.length h0.c) s.stk.length (cellsD (callsOf s.stk))
 pan : V.ownsRow lo 79 3 (.slice h1.A s.pan.length h1.c) s.pan.length (cells3 (s.pan.map p3))
 dep : V.ownsRow lo 3 1 (.slice h2.A s.pan.length h2.c) s.pan.length (cellsI (s.pan.map pdep))
 rcv : V.ownsRow lo 94 2 (.slice h4.A s.rcv.length h4.c) s.rcv.length (cells2 s.rcv)
 rep : V.ownsRow lo 3 1 (.slice h5.A s.pan.length h5.c) s.pan.length (cellsI (s.pan.map PF.rep))
 bef : V.ownsRow lo 3 1 (.slice h6.A s.pan.length h6.c) s.pan.length (cellsI (s.pan.map PF.bef))
 unw : UnwR V lo (.slice h3.A s.pan.length h3.c) (.slice h2.A s.pan.length h2.c) (.slice h5.A s.pan.length h5.c) (.slice h6.A s.pan.length h6.c) (s.pan.map PF.by_)
 a25 : Apt (.slice h2.A s.pan.length h2.c) (.slice h5.A s.pan.length h5.c)
 a26 : Apt (.slice h2.A s.pan.length h2.c) (.slice h6.A s.pan.length h6.c)
 a56 : Apt (.slice h5.A s.pan.length h5.c) (.slice h6.A s.pan.length h6.c)
section
variable {V V' : World} {lo : Nat} {h0 h1 h2 h3 h4 h5 h6 : Hd} {s : MS}
theorem UnwR.keep {v v2 v5 v6 : Value} {bys : List (List Int)} (h : UnwR V lo v v2 v5 v6 bys) (h1 : ∀ vals, V.ownsRow lo 38 1 v bys.length vals → V'.ownsRow lo 38 1 v bys.length vals) (h2 : ∀ (u : Value) (n : Nat) (xs : List Value), V.ownsRow lo 3 1 u n xs → Apt u v2 → Apt u v5 → Apt u v6 → V'.ownsRow lo 3 1 u n xs) : UnwR V' lo v v2 v5 v6 bys := by
 obtain ⟨vals, h3, h4⟩ := h
 refine ⟨vals, h1 vals h3, fun i xs hx => ?_⟩
 obtain ⟨A, c, k1, k2, k3, k4, k5⟩ := h4 i xs hx
 exact ⟨A, c, k1, h2 _ _ _ k2 k3 k4 k5, k3, k4, k5⟩
theorem W4.keep (h : W4 V lo h0 h1 h2 h3 h4 h5 h6 s) (hk : ∀ (e sz n : Nat) (v : Value) (xs : List Value), e ≠ 61 → V.ownsRow lo e sz v n xs → V'.ownsRow lo e sz v n xs) : W4 V' lo h0 h1 h2 h3 h4 h5 h6 s :=
 ⟨hk _ _ _ _ _ (by decide) h.calls, hk _ _ _ _ _ (by decide) h.pan, hk _ _ _ _ _ (by decide) h.dep, hk _ _ _ _ _ (by decide) h.rcv, hk _ _ _ _ _ (by decide) h.rep, hk _ _ _ _ _ (by decide) h.bef,
  h.unw.keep (fun vals hv => hk _ _ _ _ _ (by decide) hv) (fun u n xs hu _ _ _ => hk _ _ _ _ _ (by decide) hu), h.a25, h.a26, h.a56⟩
theorem W4.below (h : W4 V lo h0 h1 h2 h3 h4 h5 h6 s) (hb : Below V.heap.size V V') : W4 V' lo h0 h1 h2 h3 h4 h5 h6 s := h.keep fun e sz n v xs _ ho => own_below ho hb (Nat.le_refl _)
theorem W4.set {g : Nat} {cs : Array Value} (h : W4 V lo h0 h1 h2 h3 h4 h5 h6 s) (hg : Blk V g 61 cs) (i : Nat) (u : Value) : W4 (V.setCell ⟨g, i, none⟩ u) lo h0 h1 h2 h3 h4 h5 h6 s :=
 h.keep fun e sz n v xs hne ho => own_far ho _ _ (App.own_blk_ne ho hg hne)
end
structure St4 (C : Nat → Prop) (w : World) (lo b0 bz : Nat) (h0 h1 h2 h3 h4 h5 h6 : Hd) (s : MS) (V : World) : Prop where
 b0 : Blk V b0 61 (recV h0 h1 h2 h3 h4 h5 h6 s)
 bz : Blk V bz 61 z7
 w4 : W4 V lo h0 h1 h2 h3 h4 h5 h6 s
 chg : Chg C w V
section
variable {C : Nat → Prop} {w V V' : World} {lo b0 bz : Nat} {h0 h1 h2 h3 h4 h5 h6 : Hd} {s : MS}
theorem St4.below (h : St4 C w lo b0 bz h0 h1 h2 h3 h4 h5 h6 s V) (hb : Below V.heap.size V V') : St4 C w lo b0 bz h0 h1 h2 h3 h4 h5 h6 s V' :=
 ⟨h.b0.below hb h.b0.lt, h.bz.below hb h.bz.lt, h.w4.below hb, h.chg.trans (Chg.of_below (C := fun _ => False) hb) (fun _ _ f => f.elim)⟩
theorem Blk.all7 {W : World} {g : Nat} {cs : Array Value} {u0 u1 u2 u3 u4 u5 u6 : Value} (h : Blk W g 61 cs) (hc : cs.size = 7) : Blk (((((((W.setCell ⟨g, 0, none⟩ u0).setCell ⟨g, 1, none⟩ u1).setCell ⟨g, 2, none⟩ u2).setCell ⟨g, 3, none⟩ u3).setCell ⟨g, 4, none⟩ u4).setCell ⟨g, 5, none⟩ u5).setCell ⟨g, 6, none⟩ u6) g 61 #[u0, u1, u2, u3, u4, u5, u6] := by
 obtain ⟨l⟩ := cs
 obtain ⟨a0, a1, a2, a3, a4, a5, a6, rfl⟩ : ∃ a0 a1 a2 a3 a4 a5 a6, l = [a0, a1, a2, a3, a4, a5, a6] := by
  match l, hc with
  | [a0, a1, a2, a3, a4, a5, a6], _ => exact ⟨a0, a1, a2, a3, a4, a5, a6, rfl⟩
 exact Blk.set7 h _ _ _ _ _ _ _
theorem W4.set7 {g : Nat} {cs : Array Value} {u0 u1 u2 u3 u4 u5 u6 : Value} (h : W4 V lo h0 h1 h2 h3 h4 h5 h6 s) (hg : Blk V g 61 cs) : W4 (((((((V.setCell ⟨g, 0, none⟩ u0).setCell ⟨g, 1, none⟩ u1).setCell ⟨g, 2, none⟩ u2).setCell ⟨g, 3, none⟩ u3).setCell ⟨g, 4, none⟩ u4).setCell ⟨g, 5, none⟩ u5).setCell ⟨g, 6, none⟩ u6) lo h0 h1 h2 h3 h4 h5 h6 s :=
 ((((((h.set hg 0 u0).set (hg.put 0 u0) 1 u1).set ((hg.put 0 u0).put 1 u1) 2 u2).set (((hg.put 0 u0).put 1 u1).put 2 u2) 3 u3).set ((((hg.put 0 u0).put 1 u1).put 2 u2).put 3 u3) 4 u4).set (((((hg.put 0 u0).put 1 u1).put 2 u2).put 3 u3).put 4 u4) 5 u5).set ((((((hg.put 0 u0).put 1 u1).put 2 u2).put 3 u3).put 4 u4).put 5 u5) 6 u6
theorem chg7 {g : Nat} {u0 u1 u2 u3 u4 u5 u6 : Value} (h : Chg C w V) (hg : w.heap.size ≤ g) : Chg C w (((((((V.setCell ⟨g, 0, none⟩ u0).setCell ⟨g, 1, none⟩ u1).setCell ⟨g, 2, none⟩ u2).setCell ⟨g, 3, none⟩ u3).setCell ⟨g, 4, none⟩ u4).setCell ⟨g, 5, none⟩ u5).setCell ⟨g, 6, none⟩ u6) :=
 ((((((h.put _ u0 (.inl hg)).put _ u1 (.inl hg)).put _ u2 (.inl hg)).put _ u3 (.inl hg)).put _ u4 (.inl hg)).put _ u5 (.inl hg)).put _ u6 (.inl hg)
theorem far7 {g b : Nat} {t : TypeId} {cs : Array Value} {u0 u1 u2 u3 u4 u5 u6 : Value} (h : Blk V b t cs) (hne : b ≠ g) : Blk (((((((V.setCell ⟨g, 0, none⟩ u0).setCell ⟨g, 1, none⟩ u1).setCell ⟨g, 2, none⟩ u2).setCell ⟨g, 3, none⟩ u3).setCell ⟨g, 4, none⟩ u4).setCell ⟨g, 5, none⟩ u5).setCell ⟨g, 6, none⟩ u6) b t cs :=
 ((((((h.far _ u0 hne).far _ u1 hne).far _ u2 hne).far _ u3 hne).far _ u4 hne).far _ u5 hne).far _ u6 hne
end
theorem map_upd (f : PF → Int) {l : List PF} {k : Nat} {g : PF → PF} (hg : ∀ x, f (g x) = f x) : (upd l k g).map f = l.map f := by
 unfold upd
 split
 ·rename_i x hx
  rw [List.map_set, hg]
  have h1 : (l.map f)[k]? = some (f x) := by rw [List.getElem?_map, hx]; rfl
  exact set_self' h1
 ·rfl
theorem mapB_upd {l : List PF} {k : Nat} {g : PF → PF} (hg : ∀ x, (g x).by_ = x.by_) : (upd l k g).map PF.by_ = l.map PF.by_ := by
 unfold upd
 split
 ·rename_i x hx
  rw [List.map_set, hg]
  have h1 : (l.map PF.by_)[k]? = some x.by_ := by rw [List.getElem?_map, hx]; rfl
  exact set_self' h1
 ·rfl
theorem map3_fate {l : List PF} {k : Nat} {x : PF} (h : l[k]? = some x) (n : Int) : (upd l k (fun y => setFate y n)).map p3 = (l.map p3).set k (x.f, x.v, n) := by
 rw [upd_some _ h, List.map_set]
 rfl
theorem W4.fate {V V' : World} {lo k : Nat} {h0 h1 h2 h3 h4 h5 h6 h1' : Hd} {s : MS} {x : PF} (h : W4 V lo h0 h1 h2 h3 h4 h5 h6 s) (hb : Below V.heap.size V V') (hx : s.pan[k]? = some x) (n : Int)
  (ho : V'.ownsRow lo 79 3 (.slice h1'.A s.pan.length h1'.c) s.pan.length (cells3 ((s.pan.map p3).set k (x.f, x.v, n)))) : W4 V' lo h0 h1' h2 h3 h4 h5 h6 ⟨s.stk, s.next, upd s.pan k (fun y => setFate y n), s.rcv⟩ := by
 have g := h.below hb
 have e1 := map3_fate hx n
 have e2 : (upd s.pan k (fun y => setFate y n)).map pdep = s.pan.map pdep := map_upd pdep (fun _ => rfl)
 have e3 : (upd s.pan k (fun y => setFate y n)).map PF.rep = s.pan.map PF.rep := map_upd PF.rep (fun _ => rfl)
 have e4 : (upd s.pan k (fun y => setFate y n)).map PF.bef = s.pan.map PF.bef := map_upd PF.bef (fun _ => rfl)
 have e5 : (upd s.pan k (fun y => setFate y n)).map PF.by_ = s.pan.map PF.by_ := mapB_upd (fun _ => rfl)
 have e6 : (upd s.pan k (fun y => setFate y n)).length = s.pan.length := upd_len _ _ _
 exact ⟨g.calls, by show V'.ownsRow lo _ 3 (.slice h1'.A (upd s.pan k (fun y => setFate y n)).length h1'.c) _ _; rw [e6, e1]; exact ho, by show V'.ownsRow lo _ 1 (.slice h2.A (upd s.pan k (fun y => setFate y n)).length h2.c) _ _; rw [e6, e2]; exact g.dep, g.rcv, by show V'.ownsRow lo _ 1 (.slice h5.A (upd s.pan k (fun y => setFate y n)).length h5.c) _ _; rw [e6, e3]; exact g.rep, by show V'.ownsRow lo _ 1 (.slice h6.A (upd s.pan k (fun y => setFate y n)).length h6.c) _ _; rw [e6, e4]; exact g.bef,
  by show UnwR V' lo (.slice h3.A (upd s.pan k (fun y => setFate y n)).length h3.c) _ _ _ _; rw [e6, e5]; exact g.unw, g.a25.len, g.a26.len, g.a56.len⟩
theorem W4.stk {V V' : World} {lo : Nat} {h0 h1 h2 h3 h4 h5 h6 h0' : Hd} {s : MS} (h : W4 V lo h0 h1 h2 h3 h4 h5 h6 s) (hb : Below V.heap.size V V') (stk : List Ent)
  (ho : V'.ownsRow lo 157 2 (.slice h0'.A stk.length h0'.c) stk.length (cellsD (callsOf stk))) : W4 V' lo h0' h1 h2 h3 h4 h5 h6 ⟨stk, s.next, s.pan, s.rcv⟩ := by
 have g := h.below hb
 exact ⟨ho, g.pan, g.dep, g.rcv, g.rep, g.bef, g.unw, g.a25, g.a26, g.a56⟩
end Go.Proofs.Ytgcjlkdahlfjlaa.Pw

/- The model's l4Exit and l4Recover. (Written by wip/tools/genpx.py.) -/
namespace Go.Proofs.Ytgcjlkdahlfjlaa.Px
open Go.ChangeShapes Go.WideShapes Go.ChangeAt Go.RowKit
open PL Mem Srun Sst IntsP RowA Swhole PMem Psf Pw

theorem blk_ne {V : World} {g b : Nat} {t u : TypeId} {cs ds : Array Value} (h : Blk V g t cs) (h' : Blk V b u ds) (hne : t ≠ u) : g ≠ b := fun e => by
 subst e
 unfold Blk at h h'
 rw [h] at h'
 injection h' with h'
 injection h' with _ h'
 exact hne h'
theorem chg_false {w V : World} (h : Chg (fun _ => False) w V) : Below w.heap.size w V := h.below (Nat.le_refl _) (fun _ _ f => f)
theorem stk_top {V : World} {lo g m c : Nat} {O : List Ent} {a : Ent} (hm : O.length = m) (h : V.ownsRow lo 157 2 (.slice (some ⟨g, 0, none⟩) (m + 1) c) (m + 1) (cellsD (callsOf (a :: O)))) : V.cell? ⟨g, m * 2, none⟩ = some (.bool a.dfr) ∧ V.cell? ⟨g, m * 2 + 1, none⟩ = some (.int .i64 (onI a.on)) := by
 have h1 : (callsOf (a :: O))[m]? = some (ec a) := by rw [callsOf_cons, ← hm, ← callsOf_len O]; simp
 obtain ⟨h2, h3⟩ := cellsD_at _ _ _ h1
 exact ⟨(h.cellAt _ (by omega)).trans h2, (h.cellAt _ (by omega)).trans h3⟩
theorem stk_pop {V : World} {lo g m c : Nat} {O : List Ent} {a : Ent} (hm : O.length = m) (h : V.ownsRow lo 157 2 (.slice (some ⟨g, 0, none⟩) (m + 1) c) (m + 1) (cellsD (callsOf (a :: O)))) : V.ownsRow lo 157 2 (.slice (some ⟨g, 0, none⟩) m c) m (cellsD (callsOf O)) := by
 rw [callsOf_cons, cellsD_append] at h
 exact ownsRow_pop (by rw [cellsD_length, callsOf_len, hm]) h
theorem top_w4 {V V' : World} {lo m c' : Nat} {h0 h1 h2 h3 h4 h5 h6 : Hd} {next : Nat} {pan : List PF} {rcv : List (Int × Int)} {b : Ent} {S : List Ent} {A' : Option Addr} (hm : S.length = m) (x : Int) (on' : Option Nat) (hx : onI on' = x) (hw : W4 V lo h0 h1 h2 h3 h4 h5 h6 ⟨b :: S, next, pan, rcv⟩) (hb : Below V.heap.size V V')
  (ho : V'.ownsRow V.heap.size 157 2 (.slice A' (m + 1) c') (m + 1) (cellsD (callsOf S ++ [(b.dfr, x)]))) : W4 V' lo ⟨A', c'⟩ h1 h2 h3 h4 h5 h6 ⟨⟨b.no, b.dfr, on'⟩ :: S, next, pan, rcv⟩ := by
 refine hw.stk (h0' := ⟨A', c'⟩) hb (⟨b.no, b.dfr, on'⟩ :: S) ?_
 rw [List.length_cons, hm, callsOf_cons]
 show V'.ownsRow lo _ 2 _ _ (cellsD (callsOf S ++ [(b.dfr, onI on')]))
 rw [hx]
 have hl : lo ≤ V.heap.size := by
  rcases hw.calls.2 with ⟨hv, h0⟩ | ⟨g, cap, cur, _, hg, hh, _⟩
  ·have := hw.calls.1
   simp only [List.length_cons, Value.slice.injEq] at hv
   omega
  ·exact Nat.le_trans hg (Nat.le_of_lt (Array.getElem?_eq_some_iff.1 hh).1)
 exact own_mono ho hl
set_option maxRecDepth 100000 in
set_option maxHeartbeats 8000000 in
theorem l4Exit_any (lo : Nat) (h0 h1 h2 h3 h4 h5 h6 : Hd) (next : Nat) (pan : List PF) (rcv : List (Int × Int)) (a : Ent) (O : List Ent) (w : World) (hok : a.dfr = true ∨ onE O = none)
  (hon : ∀ b ∈ O, ∀ k, b.on = some k → k < pan.length) (hl1 : O.length ≤ 100000) (hl2 : pan.length ≤ 100000) (hlo : lo ≤ w.heap.size) (hw : W4 w lo h0 h1 h2 h3 h4 h5 h6 ⟨a :: O, next, pan, rcv⟩) :
  Calls Try.prog 114 #[.agg (recV h0 h1 h2 h3 h4 h5 h6 ⟨a :: O, next, pan, rcv⟩)] w fun e w' => ∃ h0' h1', e = .returned (.agg (recV h0' h1' h2 h3 h4 h5 h6 ⟨putE O none, next, fatesOf pan (onE O) 4, rcv⟩)) ∧
   W4 w' lo h0' h1' h2 h3 h4 h5 h6 ⟨putE O none, next, fatesOf pan (onE O) 4, rcv⟩ ∧ Below w.heap.size w w' := by
 obtain ⟨m, hm⟩ : ∃ m, O.length = m := ⟨_, rfl⟩
 have hcal : w.ownsRow lo 157 2 (.slice h0.A (m + 1) h0.c) (m + 1) (cellsD (callsOf (a :: O))) := by have := hw.calls; rw [← hm]; exact this
 obtain ⟨A0, c0⟩ := h0
 have hcap : m + 1 ≤ c0 := Slast0.own_cap hcal
 rcases own_form hcal with ⟨hx, _⟩ | ⟨_, g, cp, hv, _, _⟩
 ·omega
 simp only [Value.slice.injEq, true_and] at hv
 obtain ⟨rfl, rfl⟩ := hv
 have HW := Lib.hid hw
 have HM := Lib.hid hm
 have HOK := Lib.hid hok
 have HON := Lib.hid hon
 rw [hm] at hl1
 clear hw hcal hm hok hon
 go_enter Try.func114, Try.ntmps114
 go_upto_region 1 with fail
 change (fun V => Code.wp _ _ _ _ V) _
 refine gen_world (X := fun V => St4 (fun _ => False) w lo w.heap.size (w.heap.size + 1) ⟨some ⟨g, 0, none⟩, c0⟩ h1 h2 h3 h4 h5 h6 ⟨a :: O, next, pan, rcv⟩ V) ⟨heap2_0 w _ _, heap2_1 w _ _, HW.out.below (((Below.refl _ _).alloc (Nat.le_refl _) _).alloc (by simp) _), (Chg.alloc _ w _).new _⟩ ?_
 clear HW
 rintro V hV
 have z0 : V.cell? ⟨w.heap.size, 0, none⟩ = some (.slice (some ⟨g, 0, none⟩) (m + 1) c0) := by have := hV.b0.cells 0; rw [← HM.out]; exact this
 obtain ⟨k0, k1⟩ := stk_top HM.out (show V.ownsRow lo 157 2 (.slice (some ⟨g, 0, none⟩) (m + 1) c0) (m + 1) (cellsD (callsOf (a :: O))) from (by have := hV.w4.calls; rw [← HM.out]; exact this))
 have hmm : ((m + 1 : Nat) : Int) - 1 = (m : Int) := by omega
 have hlt := hV.b0.lt
 have ST := Lib.hid hV
 clear hV
 go_upto_region 2 with fail
 change (fun V => Code.wp _ _ _ _ V) _
 refine gen_world (X := fun Z => (St4 (fun _ => False) w lo w.heap.size (w.heap.size + 1) ⟨some ⟨g, 0, none⟩, c0⟩ h1 h2 h3 h4 h5 h6 ⟨a :: O, next, pan, rcv⟩ Z) ∧ Blk Z V.heap.size 157 #[.bool a.dfr, .int .i64 (onI a.on)]) ⟨ST.out.below ((Below.refl _ _).alloc (Nat.le_refl _) _), heap1_0 V _⟩ ?_
 clear ST z0 k0 k1
 generalize V.heap.size = bx
 rintro Z ⟨hZ, xZ⟩
 have z0 : Z.cell? ⟨w.heap.size, 0, none⟩ = some (.slice (some ⟨g, 0, none⟩) (m + 1) c0) := by have := hZ.b0.cells 0; rw [← HM.out]; exact this
 have f0 := hZ.b0.frozen
 have hkc : m ≤ c0 := by omega
 have ST := Lib.hid hZ
 have XB := Lib.hid xZ
 clear hZ xZ
 go_upto_region 3 with fail
 change (fun V => Code.wp _ _ _ _ V) _
 refine gen_world (X := fun Y => (St4 (fun _ => False) w lo w.heap.size (w.heap.size + 1) ⟨some ⟨g, 0, none⟩, c0⟩ h1 h2 h3 h4 h5 h6 ⟨O, next, pan, rcv⟩ Y) ∧ Blk Y bx 157 #[.bool a.dfr, .int .i64 (onI a.on)]) ⟨⟨(by have := ST.out.b0.put 0 (.slice (some ⟨g, 0, none⟩) m c0); have e := HM.out; subst e; simpa only [List.setIfInBounds_toArray, List.set_cons_zero, List.set_cons_succ] using this), ST.out.bz.far _ _ (by show w.heap.size + 1 ≠ w.heap.size; omega), (ST.out.w4.set ST.out.b0 0 _).stk (h0' := ⟨some ⟨g, 0, none⟩, c0⟩) (Below.refl _ _) O (by have := (ST.out.w4.set ST.out.b0 0 (.slice (some ⟨g, 0, none⟩) m c0)).calls; exact stk_pop rfl this), ST.out.chg.put _ _ (.inl (Nat.le_refl _))⟩, XB.out.far _ _ (fun e => blk_ne XB.out ST.out.b0 (by decide) e)⟩ ?_
 clear ST XB z0 f0
 rintro Y ⟨hY, xY⟩
 have z0 := hY.b0.cells
 have f0 := hY.b0.frozen
 have z1 := hY.bz.cells
 have f1 := hY.bz.frozen
 have x0 : Y.cell? ⟨bx, 0, none⟩ = some (.bool a.dfr) := xY.cells 0
 have ST := Lib.hid hY
 clear hY xY
 cases O with
 | nil =>
  have BZ := Lib.hid ST.out.bz
  have WU := Lib.hid ST.out.w4
  have CU := Lib.hid ST.out.chg
  go_wp2_with fail
  clear z0 f0 z1 f1 x0 ST
  refine gen_post (X := fun V => Blk V (w.heap.size + 1) 61 (recV ⟨some ⟨g, 0, none⟩, c0⟩ h1 h2 h3 h4 h5 h6 ⟨[], next, pan, rcv⟩) ∧ W4 V lo ⟨some ⟨g, 0, none⟩, c0⟩ h1 h2 h3 h4 h5 h6 ⟨[], next, pan, rcv⟩ ∧ Chg (fun _ => False) w V) ⟨Blk.all7 BZ.out rfl, WU.out.set7 BZ.out, chg7 CU.out (by omega)⟩ ?_
  clear BZ WU CU
  intro V hV
  have V1 := hV.1.cells
  have HV := Lib.hid hV.2
  clear hV
  exact bodyPost_ret (v := .agg (recV ⟨some ⟨g, 0, none⟩, c0⟩ h1 h2 h3 h4 h5 h6 ⟨[], next, pan, rcv⟩)) (by simp [results, Try.results114, go_sem, V1]) rfl ⟨⟨some ⟨g, 0, none⟩, c0⟩, h1, rfl, HV.out.1, chg_false HV.out.2⟩
 | cons b S =>
  obtain ⟨bno, bdfr, bon⟩ := b
  obtain ⟨m', hm'⟩ : ∃ m', S.length = m' := ⟨_, rfl⟩
  have HM' := Lib.hid hm'
  obtain ⟨k0, k1⟩ := stk_top HM'.out (show Y.ownsRow lo 157 2 (.slice (some ⟨g, 0, none⟩) (m' + 1) c0) (m' + 1) (cellsD (callsOf (⟨bno, bdfr, bon⟩ :: S))) from (by have := ST.out.w4.calls; rw [← HM'.out]; exact this))
  dsimp only at k0 k1
  have hml : m' ≤ 100000 := by have := HM.out; rw [List.length_cons, hm'] at this; omega
  have hmm' : ((m' + 1 : Nat) : Int) - 1 = (m' : Int) := by omega
  have hnz : (((m' + 1 : Nat) : Int) == 0) = false := by simp; omega
  have z0 : ∀ o, Y.cell? ⟨w.heap.size, o, none⟩ = (#[.slice (some ⟨g, 0, none⟩) (m' + 1) c0, .slice h1.A pan.length h1.c, .slice h2.A pan.length h2.c, .slice h3.A pan.length h3.c, .slice h4.A rcv.length h4.c, .slice h5.A pan.length h5.c, .slice h6.A pan.length h6.c] : Array Value)[o]? := by rw [← hm']; exact z0
  clear hm'
  cases bon with
  | none =>
   dsimp only [onI] at k1
   cases had : a.dfr
   all_goals
    rw [had] at x0
    have HTOP := Lib.hid (l4Top_any lo m' ⟨some ⟨g, 0, none⟩, m' + 1, c0⟩ ⟨h1.A, pan.length, h1.c⟩ ⟨h2.A, pan.length, h2.c⟩ ⟨h3.A, pan.length, h3.c⟩ ⟨h4.A, rcv.length, h4.c⟩ ⟨h5.A, pan.length, h5.c⟩ ⟨h6.A, pan.length, h6.c⟩ (callsOf S) bdfr (onI none) (-1) Y rfl (by rw [callsOf_len, HM'.out]) (by omega) (by have := ST.out.w4.calls; rw [← HM'.out]; rw [callsOf_cons] at this; exact this))
    go_wp2_with fail
    refine HTOP.out.mono ?_
    rintro e U ⟨A', c', rfl, oU, bU⟩
    have BZ := Lib.hid (ST.out.bz.below bU ST.out.bz.lt)
    have z1 := BZ.out.cells
    have f1 := BZ.out.frozen
    have WU := Lib.hid (top_w4 (b := ⟨bno, bdfr, none⟩) HM'.out (-1) none rfl ST.out.w4 bU oU)
    have CU := Lib.hid (ST.out.below bU).chg
    clear oU bU HTOP k0 k1 x0
    go_wp2_with fail
    clear z1 f1 ST
    refine gen_post (X := fun V => Blk V (w.heap.size + 1) 61 (recV ⟨A', c'⟩ h1 h2 h3 h4 h5 h6 ⟨⟨bno, bdfr, none⟩ :: S, next, pan, rcv⟩) ∧ W4 V lo ⟨A', c'⟩ h1 h2 h3 h4 h5 h6 ⟨⟨bno, bdfr, none⟩ :: S, next, pan, rcv⟩ ∧ Chg (fun _ => False) w V) ⟨(by have e := HM'.out; subst e; exact Blk.all7 BZ.out rfl), WU.out.set7 BZ.out, chg7 CU.out (by omega)⟩ ?_
    clear BZ WU CU
    intro V hV
    have V1 := hV.1.cells
    have HV := Lib.hid hV.2
    clear hV
    exact bodyPost_ret (v := .agg (recV ⟨A', c'⟩ h1 h2 h3 h4 h5 h6 ⟨⟨bno, bdfr, none⟩ :: S, next, pan, rcv⟩)) (by simp [results, Try.results114, go_sem, V1]) rfl ⟨⟨A', c'⟩, h1, rfl, HV.out.1, chg_false HV.out.2⟩
  | some k =>
   dsimp only [onI] at k1
   have hak : a.dfr = true := HOK.out.resolve_right (fun h => by cases h)
   rw [hak] at x0
   have hkl : k < pan.length := HON.out _ List.mem_cons_self k rfl
   obtain ⟨x, hx⟩ : ∃ x, pan[k]? = some x := ⟨_, List.getElem?_eq_getElem hkl⟩
   have HXK := Lib.hid hx
   have HF := Lib.hid (l4Fate_any lo pan.length k ⟨some ⟨g, 0, none⟩, m' + 1, c0⟩ ⟨h1.A, pan.length, h1.c⟩ ⟨h2.A, pan.length, h2.c⟩ ⟨h3.A, pan.length, h3.c⟩ ⟨h4.A, rcv.length, h4.c⟩ ⟨h5.A, pan.length, h5.c⟩ ⟨h6.A, pan.length, h6.c⟩ (pan.map p3) (p3 x) 4 Y rfl (by simp) (by omega) (by rw [List.getElem?_map, hx]; rfl) ST.out.w4.pan)
   have hk0 : ((k : Int) ≥ 0) := by omega
   clear hx
   go_wp2_with fail
   refine HF.out.mono ?_
   rintro e U ⟨A1', c1', rfl, oU, bU⟩
   have ST1 := Lib.hid (ST.out.below bU)
   have WF := Lib.hid (ST.out.w4.fate (h1' := ⟨A1', c1'⟩) bU HXK.out 4 (own_mono oU (Nat.le_trans hlo (Nat.le_of_lt (Nat.lt_of_le_of_lt (Nat.le_refl _) ST.out.b0.lt)))))
   have z0 := ST1.out.b0.cells
   have f0 := ST1.out.b0.frozen
   clear oU bU HF k0 k1 x0 ST z1 f1
   go_upto_region 8 with fail
   change (fun V => Code.wp _ _ _ _ V) _
   obtain ⟨pan', hp'⟩ : ∃ pan', upd pan k (fun y => setFate y 4) = pan' := ⟨_, rfl⟩
   have HPL := Lib.hid (show pan'.length = pan.length from hp' ▸ upd_len _ _ _)
   have HFE := Lib.hid (show fatesOf pan (some k) 4 = pan' from hp')
   refine gen_world (X := fun Y => St4 (fun _ => False) w lo w.heap.size (w.heap.size + 1) ⟨some ⟨g, 0, none⟩, c0⟩ ⟨A1', c1'⟩ h2 h3 h4 h5 h6 ⟨⟨bno, bdfr, some k⟩ :: S, next, pan', rcv⟩ Y) ⟨(by have := Blk.all7 (u0 := .slice (some ⟨g, 0, none⟩) (m' + 1) c0) (u1 := .slice A1' pan.length c1') (u2 := .slice h2.A pan.length h2.c) (u3 := .slice h3.A pan.length h3.c) (u4 := .slice h4.A rcv.length h4.c) (u5 := .slice h5.A pan.length h5.c) (u6 := .slice h6.A pan.length h6.c) ST1.out.b0 rfl; have e1 := HPL.out; have e2 := HM'.out; simp only [recV, List.length_cons, e1, e2]; exact this), far7 ST1.out.bz (by omega), (by have := WF.out.set7 (u0 := .slice (some ⟨g, 0, none⟩) (m' + 1) c0) (u1 := .slice A1' pan.length c1') (u2 := .slice h2.A pan.length h2.c) (u3 := .slice h3.A pan.length h3.c) (u4 := .slice h4.A rcv.length h4.c) (u5 := .slice h5.A pan.length h5.c) (u6 := .slice h6.A pan.length h6.c) ST1.out.b0; rw [hp'] at this; exact this), chg7 ST1.out.chg (Nat.le_refl _)⟩ ?_
   clear ST1 WF z0 f0 hp'
   rintro Y2 hY2
   have ST := Lib.hid hY2
   have z0 : ∀ o, Y2.cell? ⟨w.heap.size, o, none⟩ = (#[.slice (some ⟨g, 0, none⟩) (m' + 1) c0, .slice A1' pan'.length c1', .slice h2.A pan'.length h2.c, .slice h3.A pan'.length h3.c, .slice h4.A rcv.length h4.c, .slice h5.A pan'.length h5.c, .slice h6.A pan'.length h6.c] : Array Value)[o]? := by rw [← HM'.out]; exact hY2.b0.cells
   clear hY2
   have HTOP := Lib.hid (l4Top_any lo m' ⟨some ⟨g, 0, none⟩, m' + 1, c0⟩ ⟨A1', pan'.length, c1'⟩ ⟨h2.A, pan'.length, h2.c⟩ ⟨h3.A, pan'.length, h3.c⟩ ⟨h4.A, rcv.length, h4.c⟩ ⟨h5.A, pan'.length, h5.c⟩ ⟨h6.A, pan'.length, h6.c⟩ (callsOf S) bdfr (onI (some k)) (-1) Y2 rfl (by rw [callsOf_len, HM'.out]) (by omega) (by have := ST.out.w4.calls; rw [← HM'.out]; rw [callsOf_cons] at this; exact this))
   go_wp2_with fail
   refine HTOP.out.mono ?_
   rintro e U ⟨A', c', rfl, oU, bU⟩
   have BZ := Lib.hid (ST.out.bz.below bU ST.out.bz.lt)
   have z1 := BZ.out.cells
   have f1 := BZ.out.frozen
   have WU := Lib.hid (top_w4 (b := ⟨bno, bdfr, some k⟩) HM'.out (-1) none rfl ST.out.w4 bU oU)
   have CU := Lib.hid (ST.out.below bU).chg
   clear oU bU HTOP
   go_wp2_with fail
   clear z1 f1 ST
   refine gen_post (X := fun V => Blk V (w.heap.size + 1) 61 (recV ⟨A', c'⟩ ⟨A1', c1'⟩ h2 h3 h4 h5 h6 ⟨⟨bno, bdfr, none⟩ :: S, next, pan', rcv⟩) ∧ W4 V lo ⟨A', c'⟩ ⟨A1', c1'⟩ h2 h3 h4 h5 h6 ⟨⟨bno, bdfr, none⟩ :: S, next, pan', rcv⟩ ∧ Chg (fun _ => False) w V) ⟨(by have e := HM'.out; subst e; exact Blk.all7 BZ.out rfl), WU.out.set7 BZ.out, chg7 CU.out (by omega)⟩ ?_
   clear BZ WU CU
   intro V hV
   have V1 := hV.1.cells
   have HV := Lib.hid hV.2
   clear hV
   exact bodyPost_ret (v := .agg (recV ⟨A', c'⟩ ⟨A1', c1'⟩ h2 h3 h4 h5 h6 ⟨⟨bno, bdfr, none⟩ :: S, next, pan', rcv⟩)) (by simp [results, Try.results114, go_sem, V1]) rfl ⟨⟨A', c'⟩, ⟨A1', c1'⟩, by show _ = Ending.returned (.agg (recV ⟨A', c'⟩ ⟨A1', c1'⟩ h2 h3 h4 h5 h6 ⟨⟨bno, bdfr, none⟩ :: S, next, fatesOf pan (some k) 4, rcv⟩)); rw [HFE.out] <;> rfl, by show W4 _ _ _ _ _ _ _ _ _ ⟨⟨bno, bdfr, none⟩ :: S, next, fatesOf pan (some k) 4, rcv⟩; rw [HFE.out]; exact HV.out.1, chg_false HV.out.2⟩
end Go.Proofs.Ytgcjlkdahlfjlaa.Px

/- The model's l4Recover. (Written by wip/tools/genpy.py.) -/
namespace Go.Proofs.Ytgcjlkdahlfjlaa.Py
open Go.ChangeShapes Go.WideShapes Go.ChangeAt Go.RowKit
open PL Mem Srun Sst IntsP RowA Swhole PMem Psf Pw Px

theorem stk_second {V : World} {lo g m c : Nat} {O : List Ent} {a b : Ent} (hm : O.length = m) (h : V.ownsRow lo 157 2 (.slice (some ⟨g, 0, none⟩) (m + 2) c) (m + 2) (cellsD (callsOf (a :: b :: O)))) : V.cell? ⟨g, m * 2, none⟩ = some (.bool b.dfr) ∧ V.cell? ⟨g, m * 2 + 1, none⟩ = some (.int .i64 (onI b.on)) := by
 have h1 : (callsOf (a :: b :: O))[m]? = some (ec b) := by rw [callsOf_cons, callsOf_cons, List.append_assoc, ← hm, ← callsOf_len O]; simp
 obtain ⟨h2, h3⟩ := cellsD_at _ _ _ h1
 exact ⟨(h.cellAt _ (by omega)).trans h2, (h.cellAt _ (by omega)).trans h3⟩
theorem second_put {O : List Ent} {a b : Ent} {m : Nat} (hm : O.length = m) (x : Int) (on' : Option Nat) (hx : onI on' = x) : (cellsD (callsOf (a :: b :: O))).set (m * 2 + 1) (.int .i64 x) = cellsD (callsOf (a :: ⟨b.no, b.dfr, on'⟩ :: O)) := by
 have h1 : (callsOf (a :: b :: O))[m]? = some (ec b) := by rw [callsOf_cons, callsOf_cons, List.append_assoc, ← hm, ← callsOf_len O]; simp
 rw [cellsD_put _ m _ x h1, callsOf_cons, callsOf_cons, callsOf_cons, callsOf_cons, List.append_assoc, List.append_assoc, ← hm, ← callsOf_len O, List.set_append_right _ _ (Nat.le_refl _), Nat.sub_self, ← hx]
 rfl
theorem rcv_put {V V' : World} {lo : Nat} {h0 h1 h2 h3 h4 h5 h6 h4' : Hd} {stk : List Ent} {next : Nat} {pan : List PF} {rcv rcv' : List (Int × Int)} (h : W4 V lo h0 h1 h2 h3 h4 h5 h6 ⟨stk, next, pan, rcv⟩) (hch : Chg (fun x => (Value.slice h4.A rcv.length h4.c).ownBlock = some x) V V')
  (ho : V'.ownsRow lo 94 2 (.slice h4'.A rcv'.length h4'.c) rcv'.length (cells2 rcv')) : W4 V' lo h0 h1 h2 h3 h4' h5 h6 ⟨stk, next, pan, rcv'⟩ := by
 have hr := h.rcv
 dsimp only at hr
 exact ⟨own_chg h.calls hch (fun x hx e => apart h.calls hr (by decide) x hx e), own_chg h.pan hch (fun x hx e => apart h.pan hr (by decide) x hx e), own_chg h.dep hch (fun x hx e => apart h.dep hr (by decide) x hx e), ho, own_chg h.rep hch (fun x hx e => apart h.rep hr (by decide) x hx e), own_chg h.bef hch (fun x hx e => apart h.bef hr (by decide) x hx e),
  h.unw.keep (fun vals hv => own_chg hv hch (fun x hx e => apart hv hr (by decide) x hx e)) (fun u n xs hu _ _ _ => own_chg hu hch (fun x hx e => apart hu hr (by decide) x hx e)), h.a25, h.a26, h.a56⟩
set_option maxRecDepth 100000 in
set_option maxHeartbeats 8000000 in
theorem l4Recover_any (lo : Nat) (h0 h1 h2 h3 h4 h5 h6 : Hd) (next : Nat) (pan : List PF) (rcv : List (Int × Int)) (a : Ent) (bno : Nat) (bdfr : Bool) (k : Nat) (S : List Ent) (e0 f v : Int) (w : World)
  (hkl : k < pan.length) (hl1 : S.length ≤ 100000) (hl2 : pan.length ≤ 100000) (hl3 : rcv.length ≤ 100000) (hlo : lo ≤ w.heap.size) (hw : W4 w lo h0 h1 h2 h3 h4 h5 h6 ⟨a :: ⟨bno, bdfr, some k⟩ :: S, next, pan, rcv⟩) :
  Calls Try.prog 112 #[.agg (recV h0 h1 h2 h3 h4 h5 h6 ⟨a :: ⟨bno, bdfr, some k⟩ :: S, next, pan, rcv⟩), .agg #[.int .i64 e0, .int .i64 f, .int .i64 v]] w fun e w' => ∃ h0' h1' h4', e = .returned (.agg (recV h0' h1' h2 h3 h4' h5 h6 ⟨a :: ⟨bno, bdfr, none⟩ :: S, next, upd pan k (fun x => setFate x 1), rcv ++ [((k : Int), f)]⟩)) ∧
   W4 w' lo h0' h1' h2 h3 h4' h5 h6 ⟨a :: ⟨bno, bdfr, none⟩ :: S, next, upd pan k (fun x => setFate x 1), rcv ++ [((k : Int), f)]⟩ ∧ Chg (fun x => (Value.slice h4.A rcv.length h4.c).ownBlock = some x) w w' := by
 obtain ⟨i0, hi, hz0, hz1, hz2⟩ := info_parts infoD
 obtain ⟨i2, ji, jz0, jz1, jz2⟩ := info_parts infoP2
 obtain ⟨m, hm⟩ : ∃ m, S.length = m := ⟨_, rfl⟩
 have hcal : w.ownsRow lo 157 2 (.slice h0.A (m + 2) h0.c) (m + 2) (cellsD (callsOf (a :: ⟨bno, bdfr, some k⟩ :: S))) := by have := hw.calls; rw [← hm]; exact this
 obtain ⟨A0, c0⟩ := h0
 rcases own_form hcal with ⟨hx, _⟩ | ⟨_, g, cp, hv, _, _⟩
 ·omega
 simp only [Value.slice.injEq, true_and] at hv
 obtain ⟨rfl, rfl⟩ := hv
 obtain ⟨x, hx⟩ : ∃ x, pan[k]? = some x := ⟨_, List.getElem?_eq_getElem hkl⟩
 have HXK := Lib.hid hx
 have hpk : (pan.map p3)[k]? = some (p3 x) := by rw [List.getElem?_map, hx]; rfl
 have HPK := Lib.hid hpk
 have HW := Lib.hid hw
 have HM := Lib.hid hm
 have HRL := Lib.hid (show (rcv ++ [((k : Int), f)]).length = rcv.length + 1 by rw [List.length_append, List.length_singleton])
 rw [hm] at hl1
 obtain ⟨pan', hp'⟩ : ∃ pan', upd pan k (fun y => setFate y 1) = pan' := ⟨_, rfl⟩
 have HPE := Lib.hid hp'
 have hpl : pan'.length = pan.length := hp' ▸ upd_len _ _ _
 have HPL := Lib.hid hpl
 have hmm : ((m + 2 : Nat) : Int) - 2 = (m : Int) := by omega
 clear hw hcal hm hx hpk hp' hpl
 go_enter Try.func112, Try.ntmps112
 go_upto_region 1 with fail
 change (fun V => Code.wp _ _ _ _ V) _
 refine gen_world (X := fun V => (St4 (fun x => (Value.slice h4.A rcv.length h4.c).ownBlock = some x) w lo w.heap.size (w.heap.size + 1 + 1) ⟨some ⟨g, 0, none⟩, c0⟩ h1 h2 h3 h4 h5 h6 ⟨a :: ⟨bno, bdfr, some k⟩ :: S, next, pan, rcv⟩ V) ∧ Blk V (w.heap.size + 1) 74 #[.int .i64 e0, .int .i64 f, .int .i64 v]) ⟨⟨heap3_0 w _ _ _, heap3_2 w _ _ _, HW.out.below ((((Below.refl _ _).alloc (Nat.le_refl _) _).alloc (by simp) _).alloc (by simp <;> omega) _), ((Chg.alloc _ w _).new _).new _⟩, heap3_1 w _ _ _⟩ ?_
 clear HW
 rintro V ⟨hV, xV⟩
 have z0 : ∀ o, V.cell? ⟨w.heap.size, o, none⟩ = (#[.slice (some ⟨g, 0, none⟩) (m + 2) c0, .slice h1.A pan.length h1.c, .slice h2.A pan.length h2.c, .slice h3.A pan.length h3.c, .slice h4.A rcv.length h4.c, .slice h5.A pan.length h5.c, .slice h6.A pan.length h6.c] : Array Value)[o]? := by rw [← HM.out]; exact hV.b0.cells
 have f0 := hV.b0.frozen
 obtain ⟨k0, k1⟩ := stk_second HM.out (show V.ownsRow lo 157 2 (.slice (some ⟨g, 0, none⟩) (m + 2) c0) (m + 2) (cellsD (callsOf (a :: ⟨bno, bdfr, some k⟩ :: S))) from (by have := hV.w4.calls; rw [← HM.out]; exact this))
 dsimp only [onI] at k1
 have hlt := hV.b0.lt
 have ST := Lib.hid hV
 have XE := Lib.hid xV
 have HF := Lib.hid (l4Fate_any lo pan.length k ⟨some ⟨g, 0, none⟩, m + 2, c0⟩ ⟨h1.A, pan.length, h1.c⟩ ⟨h2.A, pan.length, h2.c⟩ ⟨h3.A, pan.length, h3.c⟩ ⟨h4.A, rcv.length, h4.c⟩ ⟨h5.A, pan.length, h5.c⟩ ⟨h6.A, pan.length, h6.c⟩ (pan.map p3) (p3 x) 1 V rfl (by simp) (by omega) HPK.out hV.w4.pan)
 clear hV xV
 go_wp2_with fail
 refine HF.out.mono ?_
 rintro e U ⟨A1', c1', rfl, oU, bU⟩
 have ST1 := Lib.hid (ST.out.below bU)
 have XE1 := Lib.hid (XE.out.below bU XE.out.lt)
 have WF := Lib.hid (ST.out.w4.fate (h1' := ⟨A1', c1'⟩) bU HXK.out 1 (own_mono oU (Nat.le_trans hlo (Nat.le_of_lt (Nat.lt_of_le_of_lt (Nat.le_refl _) ST.out.b0.lt)))))
 have z0 := ST1.out.b0.cells
 have f0 := ST1.out.b0.frozen
 clear oU bU HF k0 k1 ST XE
 go_upto_region 4 with fail
 change (fun V => Code.wp _ _ _ _ V) _
 refine gen_world (X := fun Y => (St4 (fun x => (Value.slice h4.A rcv.length h4.c).ownBlock = some x) w lo w.heap.size (w.heap.size + 1 + 1) ⟨some ⟨g, 0, none⟩, c0⟩ ⟨A1', c1'⟩ h2 h3 h4 h5 h6 ⟨a :: ⟨bno, bdfr, some k⟩ :: S, next, pan', rcv⟩ Y) ∧ Blk Y (w.heap.size + 1) 74 #[.int .i64 e0, .int .i64 f, .int .i64 v]) ⟨⟨(by have := Blk.all7 (u0 := .slice (some ⟨g, 0, none⟩) (m + 2) c0) (u1 := .slice A1' pan.length c1') (u2 := .slice h2.A pan.length h2.c) (u3 := .slice h3.A pan.length h3.c) (u4 := .slice h4.A rcv.length h4.c) (u5 := .slice h5.A pan.length h5.c) (u6 := .slice h6.A pan.length h6.c) ST1.out.b0 rfl; have e1 := HPL.out; have e2 := HM.out; simp only [recV, List.length_cons, e1, e2]; exact this), far7 ST1.out.bz (by omega), (by have := WF.out.set7 (u0 := .slice (some ⟨g, 0, none⟩) (m + 2) c0) (u1 := .slice A1' pan.length c1') (u2 := .slice h2.A pan.length h2.c) (u3 := .slice h3.A pan.length h3.c) (u4 := .slice h4.A rcv.length h4.c) (u5 := .slice h5.A pan.length h5.c) (u6 := .slice h6.A pan.length h6.c) ST1.out.b0; rw [HPE.out] at this; exact this), chg7 ST1.out.chg (Nat.le_refl _)⟩, far7 XE1.out (by omega)⟩ ?_
 clear ST1 WF z0 f0 XE1
 rintro Y ⟨hY, xY⟩
 have z4 : Y.cell? ⟨w.heap.size, 4, none⟩ = some (.slice h4.A rcv.length h4.c) := hY.b0.cells 4
 have x1 : Y.cell? ⟨w.heap.size + 1, 1, none⟩ = some (.int .i64 f) := xY.cells 1
 have f4 := hY.b0.frozen
 have hly : lo ≤ Y.heap.size := Nat.le_trans hlo (Nat.le_of_lt hY.b0.lt)
 have hlz0 := hY.b0.lt
 have hlz1 := xY.lt
 have ST := Lib.hid hY
 have XE := Lib.hid xY
 clear hY xY
 go_wp2_with (at_builtin; refine wpList_append_lies _ rfl _ _ 44 rfl lo 94 i2 _ 2 16 Try.underlying44 ji jz0 jz1 jz2 rfl (by decide) _ _ _ rfl (World.ownsRow.alloc ST.out.w4.rcv _) ⟨Y.heap.size, 0, none⟩ 1 1 [.int .i64 k, .int .i64 f] rfl rfl ?cn_1 ?co_1 (by decide) ?c63_1 ?cb_1 ?cl_1 (Y.heap.size + 1) ?cH_1 ?next_1)
 (try (case cn_1 => exact World.news_of_block (cs := #[.int .i64 k, .int .i64 f]) (t := 94) (fr := (0, 0)) (heap_alloc_new _ _)))
 case co_1 => first | (intro u hu; simp at hu; rcases hu with rfl | rfl <;> rfl) | simp [Value.oneCell']
 case c63_1 => first | (unfold maxLen; omega) | omega
 case cb_1 => omega
 case cl_1 => first | (simp; omega) | omega
 (try (case cH_1 => simp))
 case next_1 =>
  intro g4 c4 w2' hown2 hgrow2 hat2 hlt2
  have ch : Chg (fun x => (Value.slice h4.A rcv.length h4.c).ownBlock = some x) Y w2' := (Chg.alloc _ Y _).trans (Chg.of_grown hgrow2) (fun x _ hx => hx.symm)
  have WR := Lib.hid (rcv_put ST.out.w4 (h4' := ⟨some ⟨g4, 0, none⟩, c4⟩) (rcv' := rcv ++ [((k : Int), f)]) ch (by rw [HRL.out, cells2_append]; exact hown2))
  have hr := ST.out.w4.rcv
  have NB : ∀ b cs t, Blk Y b t cs → t ≠ 94 → Blk w2' b t cs := fun b cs t hb hne => hb.chg ch (blk_apart hr hb (fun e => hne e.symm))
  have Y0 := Lib.hid (NB _ _ _ ST.out.b0 (by decide))
  have YZ := Lib.hid (NB _ _ _ ST.out.bz (by decide))
  have YE := Lib.hid (NB _ _ _ XE.out (by decide))
  have CH := Lib.hid (ST.out.chg.trans ch (fun x _ hc => hc))
  have z4 := Y0.out.cells
  have f4 := Y0.out.frozen
  clear hown2 hgrow2 hat2 ch hr NB ST XE x1
  go_upto_region 5 with fail
  change (fun V => Code.wp _ _ _ _ V) _
  refine gen_world (X := fun Y => (St4 (fun x => (Value.slice h4.A rcv.length h4.c).ownBlock = some x) w lo w.heap.size (w.heap.size + 1 + 1) ⟨some ⟨g, 0, none⟩, c0⟩ ⟨A1', c1'⟩ h2 h3 ⟨some ⟨g4, 0, none⟩, c4⟩ h5 h6 ⟨a :: ⟨bno, bdfr, some k⟩ :: S, next, pan', rcv ++ [((k : Int), f)]⟩ Y) ∧ Blk Y (w.heap.size + 1) 74 #[.int .i64 e0, .int .i64 f, .int .i64 v]) ⟨⟨(by have := Y0.out.put 4 (.slice (some ⟨g4, 0, none⟩) (rcv.length + 1) c4); have e1 := HRL.out; simp only [recV, e1]; simpa only [List.setIfInBounds_toArray, List.set_cons_zero, List.set_cons_succ] using this), YZ.out.far _ _ (by show w.heap.size + 1 + 1 ≠ w.heap.size; omega), WR.out.set Y0.out 4 _, CH.out.put _ _ (.inl (Nat.le_refl _))⟩, YE.out.far _ _ (by show w.heap.size + 1 ≠ w.heap.size; omega)⟩ ?_
  clear Y0 YZ YE CH WR z4 f4
  rintro Y ⟨hY, _⟩
  have z0 : Y.cell? ⟨w.heap.size, 0, none⟩ = some (.slice (some ⟨g, 0, none⟩) (m + 2) c0) := by rw [← HM.out]; exact hY.b0.cells 0
  have hly : lo ≤ Y.heap.size := Nat.le_trans hlo (Nat.le_of_lt hY.b0.lt)
  have hlz0 := hY.b0.lt
  have hcr : Y.ownsRow lo 157 2 (.slice (some ⟨g, 0, none⟩) (m + 2) c0) (m + 2) (cellsD (callsOf (a :: ⟨bno, bdfr, some k⟩ :: S))) := by have := hY.w4.calls; rw [← HM.out]; exact this
  have HCR := Lib.hid hcr
  have ST := Lib.hid hY
  clear hY hcr
  go_wp2_with (at_builtin; refine App.row_list _ rfl (.tmp 30) (.tmp 32) 58 rfl Y.heap.size lo 157 i0 _ 2 16 Try.underlying58 hi hz0 hz1 hz2 rfl (by decide) (.slice (some ⟨Y.heap.size, 0, none⟩) 0 0) 0 [] rfl (App.empty_own (heap1_0 Y _) (Nat.le_refl _)) (.slice (some ⟨g, 0, none⟩) (m + 2) c0) (m + 2) (cellsD (callsOf (a :: ⟨bno, bdfr, some k⟩ :: S))) rfl (World.ownsRow.alloc HCR.out _) (cellsD_one _) (by unfold maxLen; omega) (by omega) (by simp <;> omega) ?_)
  intro v1 w3 o1 g1 t1
  have b1 : Below Y.heap.size Y w3 := ((App.Bl.refl Y).alloc _).grown g1 (fun k hk => Nat.le_of_eq (by simpa [Value.ownBlock] using hk))
  obtain ⟨A5, c5, rfl⟩ := own_slice o1
  have hform := own_form o1
  clear g1 t1 HCR z0
  rcases hform with ⟨h0, _⟩ | ⟨_, g5, cp5, hv, hg1, hg2⟩
  ·omega
  simp only [Value.slice.injEq, true_and] at hv
  obtain ⟨rfl, rfl⟩ := hv
  obtain ⟨k0, k1⟩ := stk_second HM.out o1
  have fz := o1.frozenAt
  have ST2 := Lib.hid (ST.out.below (b1.setCell (p := ⟨g5, m * 2 + 1, none⟩) hg1 (.int .i64 (-1))))
  have OS := Lib.hid (show (w3.setCell ⟨g5, m * 2 + 1, none⟩ (.int .i64 (-1))).ownsRow lo 157 2 (.slice (some ⟨g5, 0, none⟩) (m + 2) c5) (m + 2) (cellsD (callsOf (a :: ⟨bno, bdfr, none⟩ :: S))) from (by have h1 := (o1.stored (m * 2 + 1) (.int .i64 (-1))).1; rw [second_put HM.out (-1) none rfl] at h1; exact own_mono h1 hly))
  clear o1 b1 ST
  go_upto_region 7 with fail
  change (fun V => Code.wp _ _ _ _ V) _
  refine gen_world (X := fun Y => (St4 (fun x => (Value.slice h4.A rcv.length h4.c).ownBlock = some x) w lo w.heap.size (w.heap.size + 1 + 1) ⟨some ⟨g, 0, none⟩, c0⟩ ⟨A1', c1'⟩ h2 h3 ⟨some ⟨g4, 0, none⟩, c4⟩ h5 h6 ⟨a :: ⟨bno, bdfr, some k⟩ :: S, next, pan', rcv ++ [((k : Int), f)]⟩ Y) ∧ Y.ownsRow lo 157 2 (.slice (some ⟨g5, 0, none⟩) (m + 2) c5) (m + 2) (cellsD (callsOf (a :: ⟨bno, bdfr, none⟩ :: S)))) ⟨ST2.out, OS.out⟩ ?_
  clear ST2 OS k0 k1 fz
  rintro Y ⟨hY, oY⟩
  have z0 := hY.b0.cells
  have f0 := hY.b0.frozen
  have ST := Lib.hid hY
  have OY := Lib.hid oY
  clear hY oY
  go_upto_region 8 with fail
  change (fun V => Code.wp _ _ _ _ V) _
  refine gen_world (X := fun Y => St4 (fun x => (Value.slice h4.A rcv.length h4.c).ownBlock = some x) w lo w.heap.size (w.heap.size + 1 + 1) ⟨some ⟨g5, 0, none⟩, c5⟩ ⟨A1', c1'⟩ h2 h3 ⟨some ⟨g4, 0, none⟩, c4⟩ h5 h6 ⟨a :: ⟨bno, bdfr, none⟩ :: S, next, pan', rcv ++ [((k : Int), f)]⟩ Y) ⟨(by have := ST.out.b0.put 0 (.slice (some ⟨g5, 0, none⟩) (m + 2) c5); have e := HM.out; subst e; simp only [List.setIfInBounds_toArray, List.set_cons_zero, List.set_cons_succ] at this; exact this), ST.out.bz.far _ _ (by show w.heap.size + 1 + 1 ≠ w.heap.size; omega), (ST.out.w4.set ST.out.b0 0 _).stk (h0' := ⟨some ⟨g5, 0, none⟩, c5⟩) (Below.refl _ _) (a :: ⟨bno, bdfr, none⟩ :: S) (by have := own_far OY.out ⟨w.heap.size, 0, none⟩ (.slice (some ⟨g5, 0, none⟩) (m + 2) c5) (App.own_blk_ne OY.out ST.out.b0 (by decide)); have e := HM.out; subst e; exact this), ST.out.chg.put _ _ (.inl (Nat.le_refl _))⟩ ?_
  clear ST OY z0 f0
  rintro Y hY
  have z0 : ∀ o, Y.cell? ⟨w.heap.size, o, none⟩ = (#[.slice (some ⟨g5, 0, none⟩) (m + 2) c5, .slice A1' pan'.length c1', .slice h2.A pan'.length h2.c, .slice h3.A pan'.length h3.c, .slice (some ⟨g4, 0, none⟩) (rcv.length + 1) c4, .slice h5.A pan'.length h5.c, .slice h6.A pan'.length h6.c] : Array Value)[o]? := by rw [← HM.out, ← HRL.out]; exact hY.b0.cells
  have z1 := hY.bz.cells
  have f1 := hY.bz.frozen
  have BZ := Lib.hid hY.bz
  have WU := Lib.hid hY.w4
  have CU := Lib.hid hY.chg
  clear hY
  go_wp2_with fail
  clear z0 z1 f1
  refine gen_post (X := fun V => Blk V (w.heap.size + 1 + 1) 61 (recV ⟨some ⟨g5, 0, none⟩, c5⟩ ⟨A1', c1'⟩ h2 h3 ⟨some ⟨g4, 0, none⟩, c4⟩ h5 h6 ⟨a :: ⟨bno, bdfr, none⟩ :: S, next, pan', rcv ++ [((k : Int), f)]⟩) ∧ W4 V lo ⟨some ⟨g5, 0, none⟩, c5⟩ ⟨A1', c1'⟩ h2 h3 ⟨some ⟨g4, 0, none⟩, c4⟩ h5 h6 ⟨a :: ⟨bno, bdfr, none⟩ :: S, next, pan', rcv ++ [((k : Int), f)]⟩ ∧ Chg (fun x => (Value.slice h4.A rcv.length h4.c).ownBlock = some x) w V) ⟨(by have e := HM.out; subst e; have e1 := HRL.out; simp only [recV, List.length_cons, e1]; exact Blk.all7 BZ.out rfl), WU.out.set7 BZ.out, chg7 CU.out (by omega)⟩ ?_
  clear BZ WU CU
  intro V hV
  have V1 := hV.1.cells
  have HV := Lib.hid hV.2
  clear hV
  exact bodyPost_ret (v := .agg (recV ⟨some ⟨g5, 0, none⟩, c5⟩ ⟨A1', c1'⟩ h2 h3 ⟨some ⟨g4, 0, none⟩, c4⟩ h5 h6 ⟨a :: ⟨bno, bdfr, none⟩ :: S, next, pan', rcv ++ [((k : Int), f)]⟩)) (by simp [results, Try.results112, go_sem, V1]) rfl ⟨⟨some ⟨g5, 0, none⟩, c5⟩, ⟨A1', c1'⟩, ⟨some ⟨g4, 0, none⟩, c4⟩, by rw [HPE.out] <;> rfl, by rw [HPE.out]; exact HV.out.1, HV.out.2⟩
end Go.Proofs.Ytgcjlkdahlfjlaa.Py
