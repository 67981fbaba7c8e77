/- slices.Insert of one step into a body of the call's own: at the end, in its block where there is room, else in a new one. -/
import Derived.Test.YtgfjdfmmkomolaaDropS
import Derived.Lib.Overlaps
import Derived.Lib.AppendZerosOnto
import Derived.Laws.Externs
import Derived.Shelf.Spec.SlicesInsert
namespace Go.Proofs.Ytgfjdfmmkomolaa.InsP
set_option linter.unusedVariables false
set_option linter.unusedSimpArgs false
open Go.ChangeShapes Go.WideShapes Go.ChangeAt Go.RowKit
open PL Mem To OwnS DelP DropS

theorem run_copy3 {P : Program} (w : World) (dT sT ty elem : TypeId) (b o dLen dCap : Nat) (a : Addr) (sLen sCap m : Nat) (cs : List Value)
    (hu : P.underlying dT = some (.slice elem)) (hs : (P.info? elem).map (·.size) = some 3) (hm : Nat.min sLen dLen = m) (hn : cs.length = m * 3)
    (hsrc : ∀ j v, cs[j]? = some v → w.cell? (a.add j) = some v) (hc : ∀ j, j < cs.length → (w.cell? ⟨b, o + j, none⟩).isSome = true) (hf : ∀ j, j < cs.length → w.frozen? ⟨b, o + j, none⟩ = false) (h1 : ∀ v ∈ cs, v.oneCell' = true) :
    (Builtin.copy_ #[dT, sT] ty #[.slice (some ⟨b, o, none⟩) dLen dCap, .slice (some a) sLen sCap]).run P w = .ok (goInt m) (w.setCells b o cs) := by
  have hl := run_loadCells_list (P := P) w a cs hsrc
  have hst := run_storeCells_cells (P := P) b o cs 0 w (by simpa using hc) (by simpa using hf) h1
  cases hq : P.info? elem with
  | none => simp [hq] at hs
  | some i =>
    have hi : i.size = 3 := by simpa [hq] using hs
    simp [Builtin.copy_, run_underlying hu, Builtin.lenOf, Builtin.firstCells, sizeOf, typeInfo, hq, hi, hm, ← hn, hl, hst]
theorem own_grow {w : World} {B e sz n m c g : Nat} {xs : List Value} (h : w.ownsRow B e sz (.slice (some ⟨g, 0, none⟩) n c) n xs) (hm : n ≤ m) (hc : m ≤ c) :
    ∃ ex, w.ownsRow B e sz (.slice (some ⟨g, 0, none⟩) m c) m (xs ++ ex) ∧ ex.length = (m - n) * sz := by
  rcases h.2 with ⟨hv, _⟩ | ⟨g', cap, cur, hv, hB, hg, hnc, hcm, hcs, ht⟩
  · cases hv
  · simp only [Value.slice.injEq, Option.some.injEq, Addr.mk.injEq, true_and, and_true] at hv
    obtain ⟨rfl, rfl⟩ := hv
    have e1 : m * sz = n * sz + (m - n) * sz := by rw [← Nat.add_mul]; congr 1; omega
    have hmc : m * sz ≤ c * sz := Nat.mul_le_mul_right _ hc
    refine ⟨(cur.toList.drop (n * sz)).take ((m - n) * sz), ⟨?_, .inr ⟨g, c, cur, rfl, hB, hg, hc, hcm, hcs, ?_⟩⟩, ?_⟩
    · rw [List.length_append, h.1, List.length_take, List.length_drop, Array.length_toList, hcs]; omega
    · rw [e1, List.take_add, ht]
    · rw [List.length_take, List.length_drop, Array.length_toList, hcs]; omega
theorem cells3_drop (l : List Tr) (k : Nat) (h : k ≤ l.length) : (cells3 l).drop (k * 3) = cells3 (l.drop k) := by
  have : cells3 l = cells3 (l.take k) ++ cells3 (l.drop k) := by rw [← cells3_append, List.take_append_drop]
  have hl : (cells3 (l.take k)).length = k * 3 := by rw [cells3_length, List.length_take]; omega
  rw [this, List.drop_append_of_le_length (by omega), List.drop_eq_nil_of_le (by omega), List.nil_append]
def InsR (lo n c : Nat) (A : Option Addr) (xs : List Tr) (k : Nat) (s : Tr) (w : World) (e : Ending) (w' : World) : Prop :=
  ∃ A' c', e = .returned (.slice A' (n + 1) c') ∧ w'.ownsRow lo 34 3 (.slice A' (n + 1) c') (n + 1) (cells3 (xs.take k ++ s :: xs.drop k)) ∧
    (∀ x, (Value.slice A' (n + 1) c').ownBlock = some x → (Value.slice A n c).ownBlock = some x ∨ w.heap.size ≤ x) ∧ Chg (fun b => (Value.slice A n c).ownBlock = some b) w w'
theorem step_size : (Try.prog.info? 34).map (·.size) = some 3 := by kernel_rfl
theorem c3_one (s : Tr) : ∀ u ∈ c3 s, u.oneCell' = true := by intro u hu; simp [c3] at hu; rcases hu with rfl | rfl | rfl <;> rfl
set_option maxHeartbeats 1000000 in
set_option maxRecDepth 100000 in
/-- At the end. -/
theorem insert_end (lo n c vb : Nat) (A : Option Addr) (xs : List Tr) (s : Tr) (hn : n ≤ 100) (hl : xs.length = n) (hlo : lo ≤ 0 ∨ True) (w : World) (hlw : lo ≤ w.heap.size) (ho : w.ownsRow lo 34 3 (.slice A n c) n (cells3 xs))
    (hv : Blk w vb 34 (c3 s).toArray) :
    Calls Try.prog 59 #[.slice A n c, .int .i64 n, .slice (some ⟨vb, 0, none⟩) 1 1] w (InsR lo n c A xs n s w) := by
  obtain ⟨i0, hi, hz0, hz1, hz2⟩ := info_parts infoStep
  have hO := Lib.hid ho
  have hV := Lib.hid hv
  have HL := Lib.hid hl
  have hb0 : (0 : Int) ≤ (n : Int) := by omega
  have hcs : n ≤ c := by
    rcases ho.2 with ⟨hv, h0⟩ | ⟨_, _, _, hv, _, _, h1, _⟩
    · omega
    · simp only [Value.slice.injEq, true_and] at hv; omega
  have fin : ∀ (v1 : Value) (w1 : World), w1.ownsRow lo 34 3 v1 (n + 1) (cells3 xs ++ c3 s) → w.grownBy w1 (Value.slice A n c).ownBlock → (v1.ownBlock = (Value.slice A n c).ownBlock ∨ v1.ownBlock = some w.heap.size) → ∃ A' c', v1 = .slice A' (n + 1) c' ∧ InsR lo n c A xs n s w (.returned v1) w1 := by
    intro v1 w1 o1 g1 t1
    obtain ⟨A1, c1, rfl⟩ := own_slice o1
    refine ⟨A1, c1, rfl, A1, c1, rfl, ?_, fun x hx => ?_, App.Chg.of_grown' g1 (fun k hk => hk)⟩
    · rw [List.take_of_length_le (by omega), List.drop_eq_nil_of_le (by omega), cells3_append]
      simpa [cells3] using o1
    · rcases t1 with t1 | t1
      · exact .inl (t1 ▸ hx)
      · exact .inr (by rw [t1] at hx; simp at hx; omega)
  have FIN := Lib.hid fin
  rcases ho.2 with ⟨hv', rfl⟩ | ⟨g, cap, cur, hv', hB, hg, _⟩
  · simp only [Value.slice.injEq] at hv'
    obtain ⟨rfl, _, rfl⟩ := hv'
    clear ho hv hl fin hcs
    go_enter Try.func59, Try.ntmps59
    go_wp2_with (at_builtin; refine App.row_list _ rfl (.tmp 23) (.tmp 24) 66 rfl lo 0 34 i0 _ 3 24 Try.underlying66 hi hz0 hz1 hz2 rfl (by decide) (.slice none 0 0) 0 (cells3 xs) rfl hO.out (.slice (some ⟨vb, 0, none⟩) 1 1) 1 (c3 s) rfl (one3_own hV.out) (c3_one s) (by unfold maxLen; omega) (by omega) hlw ?_)
    intro v1 w1 o1 g1 t1
    obtain ⟨A', c', rfl, F⟩ := FIN.out v1 w1 o1 g1 t1
    have F' := Lib.hid F
    clear o1 g1 t1 F
    go_wp2
    go_ret
    exact F'.out
  · simp only [Value.slice.injEq, true_and] at hv'
    obtain ⟨rfl, rfl⟩ := hv'
    clear ho hv hl fin hg
    go_enter Try.func59, Try.ntmps59
    go_wp2_with (at_builtin; refine App.row_list _ rfl (.tmp 23) (.tmp 24) 66 rfl lo 0 34 i0 _ 3 24 Try.underlying66 hi hz0 hz1 hz2 rfl (by decide) (.slice (some ⟨g, 0, none⟩) n c) n (cells3 xs) rfl hO.out (.slice (some ⟨vb, 0, none⟩) 1 1) 1 (c3 s) rfl (one3_own hV.out) (c3_one s) (by unfold maxLen; omega) (by omega) hlw ?_)
    all_goals
      intro v1 w1 o1 g1 t1
      obtain ⟨A', c', rfl, F⟩ := FIN.out v1 w1 o1 g1 t1
      have F' := Lib.hid F
      clear o1 g1 t1 F
      go_wp2
      go_ret
      exact F'.out
theorem overlap_no (w : World) (vb g k lb cb c lo n : Nat) (s : Tr) (xs : List Tr) (hv : Blk w vb 34 (c3 s).toArray) (hne : vb ≠ g) (ho : w.ownsRow lo 34 3 (.slice (some ⟨g, 0, none⟩) n c) n (cells3 xs)) (hc : 0 < c) :
    (callFunc 89 #[.slice (some ⟨vb, 0, none⟩) 1 1, .slice (some ⟨g, k, none⟩) lb cb]).run Try.prog w = .ok (.value (.bool false)) w := by
  rcases ho.2 with ⟨h, _⟩ | ⟨g', cap, cur, h, hB, hg, hnc, hcm, hcs, ht⟩
  · cases h
  · simp only [Value.slice.injEq, Option.some.injEq, Addr.mk.injEq, true_and, and_true] at h
    obtain ⟨rfl, rfl⟩ := h
    rw [run_callFunc_extern Try.func89 (by kernel_rfl) (by kernel_rfl) (by kernel_rfl) (e := Extern.SlicesOverlaps.overlaps #[66, 66] #[4]) (by kernel_rfl),
      Lib.run_overlaps_apart w 66 4 34 Try.underlying66 3 Try.sizeOf34 ⟨vb, 0, none⟩ ⟨g, k, none⟩ 1 1 lb cb hne 34 34 3 cur.size
        (by unfold Blk at hv; simp [World.shape?, hv, c3]) (by simp [World.shape?, hg]) (by omega) (hv.frozen 0) (hv.frozen 3)]
    rfl
set_option maxHeartbeats 2000000 in
set_option maxRecDepth 100000 in
/-- There is room. -/
theorem insert_room (lo n c vb g : Nat) (xs : List Tr) (k : Nat) (s : Tr) (hn : n ≤ 100) (hl : xs.length = n) (hk : k < n) (hc : n + 1 ≤ c) (w : World) (ho : w.ownsRow lo 34 3 (.slice (some ⟨g, 0, none⟩) n c) n (cells3 xs))
    (hv : Blk w vb 34 (c3 s).toArray) (hne : vb ≠ g) :
    Calls Try.prog 59 #[.slice (some ⟨g, 0, none⟩) n c, .int .i64 k, .slice (some ⟨vb, 0, none⟩) 1 1] w (InsR lo n c (some ⟨g, 0, none⟩) xs k s w) := by
  have hcm : c ≤ 9223372036854775807 := by
    rcases ho.2 with ⟨hv, _⟩ | ⟨_, _, _, hv, _, _, _, h2, _⟩
    · cases hv
    · simp only [Value.slice.injEq, true_and] at hv; unfold maxLen at h2; omega
  obtain ⟨ex, oe, hex⟩ := own_grow ho (m := n + 1) (by omega) hc
  have hL0 : (cells3 xs ++ ex).length = (n + 1) * 3 := oe.1
  have hov := fun lb cb => overlap_no w vb g ((k + 1) * 3) lb cb c lo n s xs hv hne ho (by omega)
  have hdl : (cells3 (xs.drop k)).length = (n - k) * 3 := by rw [cells3_length, List.length_drop, hl]
  obtain ⟨W1, hW1⟩ : ∃ W1, W1 = w.drew.setCells g ((k + 1) * 3) (cells3 (xs.drop k)) := ⟨_, rfl⟩
  have some_ : ∀ {V : World} {l : List Value} {m : Nat}, V.ownsRow lo 34 3 (.slice (some ⟨g, 0, none⟩) m c) m l → ∀ j, j < m * 3 → (V.cell? ⟨g, j, none⟩).isSome = true := by
    intro V l m h j hj
    rw [h.cellAt j hj, List.getElem?_eq_getElem (by rw [h.1]; exact hj)]; rfl
  have oed : w.drew.ownsRow lo 34 3 (.slice (some ⟨g, 0, none⟩) (n + 1) c) (n + 1) (cells3 xs ++ ex) := own_below oe (Below.refl _ _).drew (Nat.le_refl _)
  have hcp1 : ∀ ty dc sc, (Builtin.copy_ #[66, 66] ty #[.slice (some ⟨g, (k + 1) * 3, none⟩) (n - k) dc, .slice (some ⟨g, k * 3, none⟩) (n + 1 - k) sc]).run Try.prog w.drew = .ok (goInt (n - k : Nat)) W1 := fun ty dc sc => by
    rw [hW1]
    refine run_copy3 w.drew _ _ ty _ g ((k + 1) * 3) _ dc ⟨g, k * 3, none⟩ _ sc (n - k) _ Try.underlying66 step_size (by simp only [Nat.min_def]; split <;> omega) hdl ?_ ?_ (fun j _ => oed.frozenAt _) cells3_one
    · intro j v hj
      have hj' : j < (n - k) * 3 := by have := (List.getElem?_eq_some_iff.1 hj).1; omega
      rw [Addr.add_lit, oed.cellAt _ (by omega), List.getElem?_append_left (by rw [cells3_length]; omega), ← List.getElem?_drop, cells3_drop _ _ (by omega)]
      exact hj
    · intro j hj
      exact some_ oed _ (by omega)
  have o1 : W1.ownsRow lo 34 3 (.slice (some ⟨g, 0, none⟩) (n + 1) c) (n + 1) (setL (cells3 xs ++ ex) ((k + 1) * 3) (cells3 (xs.drop k))) := by rw [hW1]; exact own_setCells _ _ _ _ oed
  have c1 : Chg (fun b => b = g) w W1 := by rw [hW1]; exact (Chg.drew _ w).trans (chg_setCells g _ _ _) (fun _ _ h => h)
  have v1 : Blk W1 vb 34 (c3 s).toArray := hv.chg c1 hne
  have hcp2 : ∀ ty dc, (Builtin.copy_ #[66, 66] ty #[.slice (some ⟨g, k * 3, none⟩) (n + 1 - k) dc, .slice (some ⟨vb, 0, none⟩) 1 1]).run Try.prog W1 = .ok (goInt (1 : Nat)) (W1.setCells g (k * 3) (c3 s)) := fun ty dc => by
    refine run_copy3 W1 _ _ ty _ g (k * 3) _ dc ⟨vb, 0, none⟩ _ 1 1 _ Try.underlying66 step_size (by simp only [Nat.min_def]; split <;> omega) rfl ?_ ?_ (fun j _ => o1.frozenAt _) (c3_one s)
    · intro j v hj
      rw [Addr.add_lit, Nat.zero_add, v1.cells]
      simpa using hj
    · intro j hj
      have : j < 3 := hj
      exact some_ o1 _ (by omega)
  have fin : (W1.setCells g (k * 3) (c3 s)).ownsRow lo 34 3 (.slice (some ⟨g, 0, none⟩) (n + 1) c) (n + 1) (cells3 (xs.take k ++ s :: xs.drop k)) := by
    have h := own_setCells (c3 s) _ _ (k * 3) o1
    have e1 : (cells3 xs).length = n * 3 := ho.1
    have e2 : (cells3 (xs.take k)).length = k * 3 := by rw [cells3_length, List.length_take]; omega
    have e3 : setL (cells3 xs ++ ex) ((k + 1) * 3) (cells3 (xs.drop k)) = (cells3 xs ++ ex).take ((k + 1) * 3) ++ cells3 (xs.drop k) := by
      have hd0 : (cells3 xs ++ ex).drop ((k + 1) * 3 + (cells3 (xs.drop k)).length) = [] := List.drop_eq_nil_of_le (by omega)
      rw [setL_eq _ _ _ (by omega), hd0, List.append_nil]
    have e4 : ((cells3 xs ++ ex).take ((k + 1) * 3) ++ cells3 (xs.drop k)).take (k * 3) = cells3 (xs.take k) := by
      rw [List.take_append_of_le_length (by rw [List.length_take]; omega), List.take_take, Nat.min_eq_left (by omega), List.take_append_of_le_length (by omega), cells3_take _ _ (by omega)]
    have e5 : ((cells3 xs ++ ex).take ((k + 1) * 3) ++ cells3 (xs.drop k)).drop (k * 3 + (c3 s).length) = cells3 (xs.drop k) := by
      have : (c3 s).length = 3 := rfl
      rw [List.drop_append_of_le_length (by rw [List.length_take]; omega), List.drop_eq_nil_of_le (by rw [List.length_take]; omega), List.nil_append]
    have e6 : (c3 s).length = 3 := rfl
    have e7 : ((cells3 xs ++ ex).take ((k + 1) * 3) ++ cells3 (xs.drop k)).length = (n + 1) * 3 := by rw [List.length_append, List.length_take, hdl]; omega
    rw [e3, setL_eq _ _ _ (by omega), e4, e5] at h
    have e8 : cells3 (xs.take k ++ s :: xs.drop k) = cells3 (xs.take k) ++ c3 s ++ cells3 (xs.drop k) := by rw [cells3_append, cells3_cons, List.append_assoc]; rfl
    rw [e8]
    exact h
  have FIN := Lib.hid fin
  have CH := Lib.hid (c1.trans (chg_setCells g (c3 s) W1 (k * 3)) (fun _ _ h => h))
  have hW := Lib.hid hW1
  have hz2 : ¬ ((k : Int) = (n : Int)) := by omega
  have hz3 : ¬ ((c : Int) < (n : Int) + 1) := by omega
  have hw1 : IntKind.i64.wrap ((k : Int) + 1) = (k : Int) + 1 := by rw [IntKind.wrap_i64]; omega
  have hb1 : (0 : Int) ≤ (k : Int) + 1 := by omega
  have hb2 : ¬ (c = k + 1) := by omega
  have hb3 : (k : Int) ≤ (n : Int) := by omega
  have hb4 : ¬ (c = k) := by omega
  have hb5 : (k : Int) + 1 ≤ (n : Int) + 1 := by omega
  have hb6 : (n : Int) + 1 ≤ (c : Int) := by omega
  have hb7 : (k : Int) ≤ (n : Int) + 1 := by omega
  clear hW1 o1 c1 v1 oed oe ho hv hL0 hdl some_ fin hex
  go_enter Try.func59, Try.ntmps59
  go_wp2_with (simp only [hov])
  go_region_law (refine step_copy_runI rfl _ _ 66 66 rfl _ _ (by simp [Act.eval, Act.put]) (by simp [Act.eval, Act.put]) (hcp1 _ _ _) ?_)
  go_wp2_with (at_builtin; refine wpList_copy_runI _ rfl _ _ 66 66 rfl _ _ rfl rfl (hcp2 _ _) ?_)
  go_ret
  exact ⟨_, _, rfl, FIN.out, fun x hx => .inl hx, CH.out.mono (fun x _ h => by obtain rfl : x = g := h; rfl)⟩
def zc : Array Value := #[.int .i64 0, .int .i64 0, .int .i64 0]
theorem zeros_size (m : Nat) : (Builtin.zeroCells zc m).size = m * 3 := by simp [Builtin.zeroCells, zc]
set_option maxHeartbeats 2000000 in
set_option maxRecDepth 100000 in
/-- There is no room: a new row. -/
theorem insert_move (lo n c vb g : Nat) (xs : List Tr) (k : Nat) (s : Tr) (hn : n ≤ 100) (hl : xs.length = n) (hk : k < n) (hc : c < n + 1) (w : World) (hlw : lo ≤ w.heap.size) (ho : w.ownsRow lo 34 3 (.slice (some ⟨g, 0, none⟩) n c) n (cells3 xs))
    (hv : Blk w vb 34 (c3 s).toArray) :
    Calls Try.prog 59 #[.slice (some ⟨g, 0, none⟩) n c, .int .i64 k, .slice (some ⟨vb, 0, none⟩) 1 1] w (InsR lo n c (some ⟨g, 0, none⟩) xs k s w) := by
  obtain ⟨i0, hi, hz0, hz1, hz2⟩ := info_parts infoStep
  have hnc : n ≤ c := by
    rcases ho.2 with ⟨hv, _⟩ | ⟨_, _, _, hv, _, _, h1, _⟩
    · cases hv
    · simp only [Value.slice.injEq, true_and] at hv; omega
  have hgl : g < w.heap.size := (ho.lt g rfl).2
  have hdl : (cells3 (xs.drop k)).length = (n - k) * 3 := by rw [cells3_length, List.length_drop, hl]
  have htl : (cells3 (xs.take k)).length = k * 3 := by rw [cells3_length, List.length_take]; omega
  have e1 : (cells3 xs).length = n * 3 := ho.1
  have hold : (Builtin.firstCells i0.size k (.slice (some ⟨g, 0, none⟩) k c)).run Try.prog w.drew = .ok (cells3 (xs.take k)).toArray w.drew := by
    rw [hz1]
    refine run_firstCells_some w.drew 3 k ⟨g, 0, none⟩ k c (cells3 (xs.take k)) htl (fun j v hj => ?_)
    have hj' : j < k * 3 := by have := (List.getElem?_eq_some_iff.1 hj).1; omega
    rw [Addr.add_lit, Nat.zero_add]
    refine (ho.cellAt j (by omega)).trans ?_
    rw [← cells3_take _ _ (by omega), List.getElem?_take, if_pos hj'] at hj
    exact hj
  obtain ⟨G, hG⟩ : ∃ G, G = grownCap w (n + 1) c 34 := ⟨_, rfl⟩
  have hG1 : n + 1 ≤ G := by rw [hG]; exact grownCap_ge w _ _ _
  have hG2 : G ≤ maxLen := by rw [hG]; exact grownCap_le_maxLen w (n + 1) c _ (by unfold maxLen; omega)
  obtain ⟨ROW, hROW⟩ : ∃ ROW : Array Value, ROW = (cells3 (xs.take k)).toArray ++ Builtin.zeroCells zc (n + 1 - k) ++ Builtin.zeroCells zc (G - (n + 1)) := ⟨_, rfl⟩
  have hRs : ROW.size = G * 3 := by
    rw [hROW, Array.size_append, Array.size_append, zeros_size, zeros_size, List.size_toArray, htl]; omega
  obtain ⟨W1, hW1⟩ : ∃ W1, W1 = w.drew.alloc (.cells ROW 34) := ⟨_, rfl⟩
  have hrz : ∀ ty, (Builtin.append_ #[66, 3] ty #[.slice (some ⟨g, 0, none⟩) k c, .int .i64 ((n : Int) + 1 - (k : Int))]).run Try.prog w = .ok (.slice (some ⟨w.heap.size, 0, none⟩) (n + 1) G) W1 := fun ty => by
    have h := Lib.run_append_grow_zeros w 66 3 ty 34 i0 _ .i64 .i64 Try.underlying66 Try.underlying3 hi hz0 (some ⟨g, 0, none⟩) k c (cells3 (xs.take k)) hold (n + 1 - k) (by omega) (by rw [hz1]; omega) (by omega) (by omega) (by rw [hz2]; omega)
      (by rw [hz2, show k + (n + 1 - k) = n + 1 by omega]; exact growslice_fits hc (by omega))
    rw [show k + (n + 1 - k) = n + 1 by omega, ← hG, show ((n + 1 - k : Nat) : Int) = (n : Int) + 1 - (k : Int) by omega] at h
    rw [h, hW1, hROW]
    rfl
  have o1 : W1.ownsRow lo 34 3 (.slice (some ⟨w.heap.size, 0, none⟩) (n + 1) G) (n + 1) (ROW.toList.take ((n + 1) * 3)) := by
    refine ⟨by rw [List.length_take, Array.length_toList, hRs]; omega, .inr ⟨w.heap.size, G, ROW, rfl, hlw, ?_, hG1, hG2, hRs, rfl⟩⟩
    rw [hW1]; exact heap_alloc_new w.drew _
  have b1 : Below w.heap.size w W1 := by rw [hW1]; exact (Below.refl _ _).drew.alloc (Nat.le_refl _) _
  have L1t : (ROW.toList.take ((n + 1) * 3)).take (k * 3) = cells3 (xs.take k) := by
    rw [List.take_take, Nat.min_eq_left (by omega), hROW, Array.append_assoc, Array.toList_append, List.take_append_of_le_length (by simp; omega), List.take_of_length_le (by simp; omega)]
  have L1l : (ROW.toList.take ((n + 1) * 3)).length = (n + 1) * 3 := o1.1
  have c3l : (c3 s).length = 3 := rfl
  have some_ : ∀ {V : World} {l : List Value}, V.ownsRow lo 34 3 (.slice (some ⟨w.heap.size, 0, none⟩) (n + 1) G) (n + 1) l → ∀ j, j < (n + 1) * 3 → (V.cell? ⟨w.heap.size, j, none⟩).isSome = true := by
    intro V l h j hj
    rw [h.cellAt j hj, List.getElem?_eq_getElem (by rw [h.1]; exact hj)]; rfl
  obtain ⟨W2, hW2⟩ : ∃ W2, W2 = W1.setCells w.heap.size (k * 3) (c3 s) := ⟨_, rfl⟩
  have v1 : Blk W1 vb 34 (c3 s).toArray := hv.below b1 hv.lt
  have hcp1 : ∀ ty dc, (Builtin.copy_ #[66, 66] ty #[.slice (some ⟨w.heap.size, k * 3, none⟩) (n + 1 - k) dc, .slice (some ⟨vb, 0, none⟩) 1 1]).run Try.prog W1 = .ok (goInt (1 : Nat)) W2 := fun ty dc => by
    rw [hW2]
    refine run_copy3 W1 _ _ ty _ w.heap.size (k * 3) _ dc ⟨vb, 0, none⟩ _ 1 1 _ Try.underlying66 step_size (by simp only [Nat.min_def]; split <;> omega) rfl ?_ ?_ (fun j _ => o1.frozenAt _) (c3_one s)
    · intro j v hj
      rw [Addr.add_lit, Nat.zero_add, v1.cells]
      simpa using hj
    · intro j hj
      have : j < 3 := hj
      exact some_ o1 _ (by omega)
  have o2 : W2.ownsRow lo 34 3 (.slice (some ⟨w.heap.size, 0, none⟩) (n + 1) G) (n + 1) (setL (ROW.toList.take ((n + 1) * 3)) (k * 3) (c3 s)) := by rw [hW2]; exact own_setCells _ _ _ _ o1
  have b2 : Below w.heap.size w W2 := by
    rw [hW2]
    exact b1.trans ((chg_setCells w.heap.size (c3 s) W1 (k * 3)).below b1.size (fun x hx hc => by omega))
  have o2d : W2.drew.ownsRow lo 34 3 (.slice (some ⟨w.heap.size, 0, none⟩) (n + 1) G) (n + 1) (setL (ROW.toList.take ((n + 1) * 3)) (k * 3) (c3 s)) := own_below o2 (Below.refl _ _).drew (Nat.le_refl _)
  obtain ⟨W3, hW3⟩ : ∃ W3, W3 = W2.drew.setCells w.heap.size ((k + 1) * 3) (cells3 (xs.drop k)) := ⟨_, rfl⟩
  have hcp2 : ∀ ty dc sc, (Builtin.copy_ #[66, 66] ty #[.slice (some ⟨w.heap.size, (k + 1) * 3, none⟩) (n - k) dc, .slice (some ⟨g, k * 3, none⟩) (n - k) sc]).run Try.prog W2.drew = .ok (goInt (n - k : Nat)) W3 := fun ty dc sc => by
    rw [hW3]
    refine run_copy3 W2.drew _ _ ty _ w.heap.size ((k + 1) * 3) _ dc ⟨g, k * 3, none⟩ _ sc (n - k) _ Try.underlying66 step_size (by simp only [Nat.min_def]; split <;> omega) hdl ?_ ?_ (fun j _ => o2d.frozenAt _) cells3_one
    · intro j v hj
      have hj' : j < (n - k) * 3 := by have := (List.getElem?_eq_some_iff.1 hj).1; omega
      rw [Addr.add_lit]
      refine (b2.drew.cell (p := ⟨g, k * 3 + j, none⟩) hgl).trans ?_
      rw [ho.cellAt _ (by omega), ← List.getElem?_drop, cells3_drop _ _ (by omega)]
      exact hj
    · intro j hj
      exact some_ o2d _ (by omega)
  have o3 : W3.ownsRow lo 34 3 (.slice (some ⟨w.heap.size, 0, none⟩) (n + 1) G) (n + 1) (cells3 (xs.take k ++ s :: xs.drop k)) := by
    have h := own_setCells (cells3 (xs.drop k)) _ _ ((k + 1) * 3) o2d
    rw [← hW3] at h
    have e3 : setL (ROW.toList.take ((n + 1) * 3)) (k * 3) (c3 s) = (cells3 (xs.take k) ++ c3 s) ++ (ROW.toList.take ((n + 1) * 3)).drop (k * 3 + (c3 s).length) := by
      rw [setL_eq _ _ _ (by omega), L1t]
    have e4 : (setL (ROW.toList.take ((n + 1) * 3)) (k * 3) (c3 s)).length = (n + 1) * 3 := by rw [setL_length, L1l]
    have e5 : (setL (ROW.toList.take ((n + 1) * 3)) (k * 3) (c3 s)).take ((k + 1) * 3) = cells3 (xs.take k) ++ c3 s := by
      rw [e3, List.take_append_of_le_length (by rw [List.length_append]; omega), List.take_of_length_le (by rw [List.length_append]; omega)]
    have e6 : (setL (ROW.toList.take ((n + 1) * 3)) (k * 3) (c3 s)).drop ((k + 1) * 3 + (cells3 (xs.drop k)).length) = [] := List.drop_eq_nil_of_le (by omega)
    rw [setL_eq _ _ _ (by omega), e5, e6, List.append_nil] at h
    have e8 : cells3 (xs.take k ++ s :: xs.drop k) = cells3 (xs.take k) ++ c3 s ++ cells3 (xs.drop k) := by rw [cells3_append, cells3_cons, List.append_assoc]; rfl
    rw [e8]
    exact h
  have b3 : Below w.heap.size w W3 := by
    rw [hW3]
    exact b2.drew.trans ((chg_setCells w.heap.size (cells3 (xs.drop k)) W2.drew ((k + 1) * 3)).below b2.size (fun x hx hc => by omega))
  have O3 := Lib.hid o3
  have B3 := Lib.hid b3
  have hG63 : G ≤ 9223372036854775807 := by unfold maxLen at hG2; exact hG2
  have hz2' : ¬ ((k : Int) = (n : Int)) := by omega
  have hz3 : (c : Int) < (n : Int) + 1 := by omega
  have hw1 : IntKind.i64.wrap ((k : Int) + 1) = (k : Int) + 1 := by rw [IntKind.wrap_i64]; omega
  have hb1 : (0 : Int) ≤ (k : Int) + 1 := by omega
  have hGi : ¬ (G = k) := by omega
  have hGim : ¬ (G = k + 1) := by omega
  have hb3 : (k : Int) ≤ (n : Int) := by omega
  have hb4 : ¬ (c = k) := by omega
  have hb5 : (k : Int) + 1 ≤ (n : Int) + 1 := by omega
  have hb7 : (k : Int) ≤ (n : Int) + 1 := by omega
  clear hW1 hW2 hW3 o1 o2 o2d o3 b1 b2 b3 v1 ho hv L1t L1l c3l some_ hdl htl e1 hold hG hG1 hG2 hROW hRs hi hz0 hz1 hz2
  go_enter Try.func59, Try.ntmps59
  go_wp2_with (first | (at_builtin; refine Lib.wpList_append_run _ rfl _ _ _ _ rfl _ _ rfl rfl _ _ (hrz _) ?_) | (at_builtin; refine wpList_copy_runI _ rfl _ _ 66 66 rfl _ _ rfl rfl (hcp1 _ _) ?_))
  go_region_law (refine step_copy_runI rfl _ _ 66 66 rfl _ _ (by simp [Act.eval, Act.put]) (by simp [Act.eval, Act.put]) (hcp2 _ _ _) ?_)
  go_wp2
  go_ret
  exact ⟨_, _, rfl, O3.out, fun x hx => .inr (by simp [Value.ownBlock] at hx; omega), Chg.of_below B3.out⟩
theorem insert_any (lo n c vb : Nat) (A : Option Addr) (xs : List Tr) (k : Nat) (s : Tr) (hn : n ≤ 100) (hl : xs.length = n) (hk : k ≤ n) (w : World) (hlw : lo ≤ w.heap.size) (ho : w.ownsRow lo 34 3 (.slice A n c) n (cells3 xs))
    (hv : Blk w vb 34 (c3 s).toArray) (hne : (Value.slice A n c).ownBlock ≠ some vb) :
    Calls Try.prog 59 #[.slice A n c, .int .i64 k, .slice (some ⟨vb, 0, none⟩) 1 1] w (InsR lo n c A xs k s w) := by
  rcases Nat.lt_or_ge k n with h | h
  · rcases own_form ho with ⟨h0, _⟩ | ⟨_, g, cap, hv', _, _⟩
    · omega
    · simp only [Value.slice.injEq, true_and] at hv'
      obtain ⟨rfl, rfl⟩ := hv'
      rcases Nat.lt_or_ge c (n + 1) with h2 | h2
      · exact insert_move lo n c vb g xs k s hn hl h h2 w hlw ho hv
      · exact insert_room lo n c vb g xs k s hn hl h h2 w ho hv (fun e => hne (by rw [e]; rfl))
  · obtain rfl : k = n := by omega
    exact insert_end lo k c vb A xs s hn hl (.inr trivial) w hlw ho hv
end Go.Proofs.Ytgfjdfmmkomolaa.InsP
