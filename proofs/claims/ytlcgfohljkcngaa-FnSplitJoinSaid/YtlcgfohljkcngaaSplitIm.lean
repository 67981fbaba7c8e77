/- What SplitString of the program and of the model return: both a slice of their own with the parts, and true, for a string of at most 4000 bytes and a separator of one byte, else an empty slice and false; for every string of at most 1048576 bytes; nothing that was there is written. -/
import Derived.Test.YtlcgfohljkcngaaSplitIt
import Derived.Test.YtlcgfohljkcngaaSplit
namespace Go.Proofs.Ytlcgfohljkcngaa.SplitIm
open Go.RowKit Go.Shelf
open SplitPlain SplitIt SplitWalk
attribute [local go_sem] Oper.semAt_some
theorem weaken {w : World} {B B' : Nat} {e : TypeId} {sz n : Nat} {v : Value} {xs : List Value} (h : w.ownsRow B e sz v n xs) (hB : B' ≤ B) : w.ownsRow B' e sz v n xs := by
  refine ⟨h.1, ?_⟩
  rcases h.2 with h0 | ⟨g, cap, cur, hv, hb, r⟩
  · exact .inl h0
  · exact .inr ⟨g, cap, cur, hv, Nat.le_trans hB hb, r⟩
/-- What one round of the collecting body does. -/
theorem collect {W w1 : World} {B0 : Nat} {v v' : Value} {pre : List ByteArray} {x s : ByteArray} {b : Value} {w : World} (hv : Boxed W B0 26 v) (hrow : W.ownsRow (B0 + 3) 9 1 v pre.length (pre.map Value.string))
    (h1 : Boxed W (B0 + 1) 9 (.string s)) (h2 : Boxed W (B0 + 2) 5 b) (hB : Below B0 w W) (hsz : B0 + 3 ≤ W.heap.size)
    (hown' : w1.ownsRow (B0 + 3) 9 1 v' (pre.length + 1) (pre.map Value.string ++ [.string x])) (hgrow : (W.alloc (.cells #[.string x] 9)).grownBy w1 v.ownBlock) :
    Boxed w1 B0 26 v ∧ KeepsOthers W (w1.setCell ⟨B0, 0, none⟩ v') ∧ Kp (B0 + 1) (B0 + 2) W (w1.setCell ⟨B0, 0, none⟩ v') ∧
    ((((∃ u, Boxed (w1.setCell ⟨B0, 0, none⟩ v') B0 26 u ∧ (w1.setCell ⟨B0, 0, none⟩ v').ownsRow (B0 + 3) 9 1 u (pre ++ [x]).length ((pre ++ [x]).map Value.string) ∧ True) ∧ Boxed (w1.setCell ⟨B0, 0, none⟩ v') (B0 + 1) 9 (.string s)) ∧ Boxed (w1.setCell ⟨B0, 0, none⟩ v') (B0 + 2) 5 b) ∧ Below B0 w (w1.setCell ⟨B0, 0, none⟩ v')) := by
  obtain ⟨a1, a2, _, a4, a5⟩ := hv.appended (n₀ := B0) (by decide) (weaken hrow (by omega)) (by omega) (Nat.le_refl _) (weaken hown' (by omega)) hgrow
  have hne : ∀ k, k < B0 + 3 → some k ≠ v.ownBlock := fun k hk e => by have := (hrow.lt k e.symm).1; omega
  have b1 : Boxed (w1.setCell ⟨B0, 0, none⟩ v') (B0 + 1) 9 (.string s) := ((h1.alloc _).kept hgrow (hne _ (by omega))).other (by omega) v'
  have b2 : Boxed (w1.setCell ⟨B0, 0, none⟩ v') (B0 + 2) 5 b := ((h2.alloc _).kept hgrow (hne _ (by omega))).other (by omega) v'
  refine ⟨a1, a4, ⟨b1.cell.trans h1.cell.symm, b2.cell.trans h2.cell.symm⟩, ⟨⟨⟨⟨v', a2, ?_, trivial⟩, b1⟩, b2⟩, hB.trans a5⟩⟩
  have h3 : (w1.setCell ⟨B0, 0, none⟩ v').ownsRow (B0 + 3) 9 1 v' (pre.length + 1) (pre.map Value.string ++ [.string x]) := hown'.kept (grownBy_setCell' w1 B0 v') (.inr (a1.not_row (by decide) hown').symm)
  simpa using h3
theorem kp_b {w0 : World} {Bs Bb : Nat} (h1 : Bs < w0.heap.size) (h2 : Bb < w0.heap.size) (W : World) (l : Nat) (o o' : Obj) (hl : w0.heap.size ≤ l) (_ : W.heap[l]? = some o) (_ : o.isCells = false) (_ : o.isWalk = false) : Kp Bs Bb W (W.putObj l o') :=
  ⟨World.cell?_of_block (World.putObj_heap_other (by show Bs ≠ l; omega)), World.cell?_of_block (World.putObj_heap_other (by show Bb ≠ l; omega))⟩
set_option maxRecDepth 100000 in
set_option maxHeartbeats 2000000 in
theorem split_in (n : Nat) (hn : 3 ≤ n) (s sep : ByteArray) (hs : s.size ≤ 4000) (hp2 : 0 < sep.size) (hp1 : sep.size ≤ 1) (b : UInt8) (hb : sep[0] = b) (w : World) :
    CallsIn Fence.wide n Try.prog 10 #[.string s, .string sep] w fun e W' => ∃ v, e = .returned (.tuple #[v, .bool true]) ∧ W'.ownsRow w.heap.size 9 1 v (parts s b).length ((parts s b).map Value.string) ∧ Below w.heap.size w W' := by
  have h1 : 1 ≤ n := by omega
  obtain ⟨i0, hi, hz0, hz1, hz2⟩ := info_parts info9
  have hp : ((sep.size : Int) != 1) = false := by have : sep.size = 1 := by omega
                                                  rw [this]; rfl
  have hd : decide (4000 < (s.size : Int)) = false := by simp; omega
  refine callsIn_of_wp_marks Try.func10 rfl trivial ?_ rfl
  simp only [Try.ntmps10, List.size_toArray, List.length_cons, List.length_nil, Nat.reduceAdd, Nat.reduceSub, Array.replicate_succ, Array.replicate_zero, List.push_toArray, List.append_toArray, List.nil_append, List.cons_append]
  gi_wp2_with (refine ⟨trivial, ?_⟩; gi_at_call 27; refine (partsOf_in (n - 1) _ _ _).mono ?_; rintro e w' ⟨rfl, rfl⟩)
  have bO := Boxed.new w 26 (.slice none 0 0)
  have bS := Boxed.new (w.alloc (.cells #[.slice none 0 0] 26)) 9 (.string s)
  have bB := Boxed.new ((w.alloc (.cells #[.slice none 0 0] 26)).alloc (.cells #[.string s] 9)) 5 (.int .u8 b.toNat)
  simp only [World.size_alloc] at bS bB
  have hB0 : Below w.heap.size w (((w.alloc (.cells #[.slice none 0 0] 26)).alloc (.cells #[.string s] 9)).alloc (.cells #[.int .u8 b.toNat] 5)) := (((Below.refl _ w).alloc (Nat.le_refl _) _).alloc (by simp) _).alloc (by simp; omega) _
  refine wpIn_rangeFunc_ownG rfl h1 (gf := 36) (lb := #[.pointer (some ⟨w.heap.size + 1, 0, none⟩), .pointer (some ⟨w.heap.size + 1 + 1, 0, none⟩)]) rfl trivial (enters_of Try.func36 (by kernel_rfl) rfl)
    (it_stops (n - 1) (by omega) (w.heap.size + 1) (w.heap.size + 1 + 1) s (by omega) b _ (by simp) (by simp) (bS.alloc _).cell bB.cell) kp_t (kp_b (by simp) (by simp)) (Below.refl _ _) (fun _ => rfl)
    (fun pre W => (((∃ v, Boxed W w.heap.size 26 v ∧ W.ownsRow (w.heap.size + 3) 9 1 v pre.length (pre.map Value.string) ∧ True) ∧ Boxed W (w.heap.size + 1) 9 (.string s)) ∧ Boxed W (w.heap.size + 2) 5 (.int .u8 b.toNat)) ∧ Below w.heap.size w W)
    (fun _ _ _ => False)
    (OwnFrom.and (OwnFrom.and (OwnFrom.and (Own.from (holdsRow_own (w.heap.size + 3) w.heap.size 26 9 1 (fun pre : List ByteArray => pre.length) (fun pre => pre.map Value.string) (fun _ _ => True)) _) (Own.from (boxed_own _ _ (fun _ => .string s)) _)) (Own.from (boxed_own _ _ (fun _ => .int .u8 b.toNat)) _)) (ownFrom_below (Nat.le_refl _) (by simp; omega)))
    (fun _ _ _ _ _ hs _ _ => hs)
    ⟨⟨⟨⟨_, (bO.alloc _).alloc _, World.ownsRow_nil _ _ _ _, trivial⟩, bS.alloc _⟩, bB⟩, hB0⟩
    (fun x => { tmps := #[.string s, .string sep, undef, undef, .slice none 0 0, .bool false, .pointer (some ⟨w.heap.size, 0, none⟩), .string x, .string s, .int .i64 s.size, .bool false, .bool false, .string sep, .int .i64 sep.size, .bool false, .bool false, undef, .string s, .string sep, .int .u8 b.toNat, .func (.func 36) #[] #[.pointer (some ⟨w.heap.size + 1, 0, none⟩), .pointer (some ⟨w.heap.size + 1 + 1, 0, none⟩)], .string x, undef, undef, undef, undef, undef], defers := [] }) ?assign ?body ?done ?stop
  case assign =>
    intro l x W K hK
    gi_wp2
    exact hK
  case body =>
    rintro l pre x W ⟨⟨⟨⟨v, hv, hrow, _⟩, hS⟩, hBb⟩, hB⟩ hlt
    have hc := hv.cell
    have hsz : w.heap.size + 3 ≤ W.heap.size := by have := hBb.lt; omega
    gi_wp2_with (gi_at_builtin; refine wpListIn_append_own _ rfl _ _ 26 rfl (w.heap.size + 3) 9 i0 (.string ByteArray.empty) 1 16 Try.underlying26 hi hz0 hz1 hz2 rfl (by decide) _ _ _ rfl (hrow.alloc _) ⟨W.heap.size, 0, none⟩ 1 1 [.string x] rfl rfl (cell_one_new _ _ _) (by simp [Value.oneCell']) (by unfold maxLen; omega) (by omega) (by simp; omega) ?_; intro v' w1 hown' hgrow _; obtain ⟨g', cap', rfl⟩ := ownsRow_succ hown'; obtain ⟨hv1, hk2, hkp, hI2⟩ := collect hv hrow hS hBb hB hsz hown' hgrow; have hc1 := hv1.cell; have hf1 := hv1.frozen)
    exact ⟨hk2.from _, hkp, hI2⟩
  case done =>
    rintro D ys W hD rfl ⟨⟨⟨⟨v, hv, hrow, _⟩, hS⟩, hBb⟩, hB⟩ hK
    have hc := hv.cell
    gi_wp2
    refine ⟨by simp, .inl ⟨_, _, rfl, run_takeDeferred hK, ?_⟩⟩
    exact ⟨_, by simp [results, Try.results10, go_sem], v, rfl, ownsRow_putObj (weaken hrow (by omega)) _ hK rfl, hB.trans (belowK_b (w := w) (Nat.le_refl _) W D _ _ (by simp at hD; omega) hK rfl rfl)⟩
  case stop =>
    rintro D c pre W _ _ h _
    exact h.elim
/-- The two ways of both. -/
def Good (s sep : ByteArray) : Prop := s.size ≤ 4000 ∧ sep.size = 1
theorem implGood (s sep : ByteArray) (hs : s.size ≤ 4000) (hp2 : 0 < sep.size) (hp1 : sep.size ≤ 1) (b : UInt8) (hb : sep[0] = b) (w : World) :
    Calls Try.prog 10 #[.string s, .string sep] w fun e W' => ∃ v, e = .returned (.tuple #[v, .bool true]) ∧ W'.ownsRow w.heap.size 9 1 v (parts s b).length ((parts s b).map Value.string) ∧ Below w.heap.size w W' :=
  callsIn_wide.1 (split_in 3 (Nat.le_refl _) s sep hs hp2 hp1 b hb w)
theorem implBad (s sep : ByteArray) (hs : s.size ≤ 1048576) (h : 4000 < s.size ∨ sep.size ≠ 1) (w : World) :
    Calls Try.prog 10 #[.string s, .string sep] w fun e W' => e = .returned (.tuple #[.slice (some ⟨w.heap.size, 0, none⟩) 0 0, .bool false]) ∧ Below w.heap.size w W' := by
  by_cases h1 : 4000 < s.size
  · have hd : decide (4000 < (s.size : Int)) = true := by simp; omega
    go_enter Try.func10, Try.ntmps10
    go_wp2
    go_ret2
    exact ⟨rfl, (Below.refl _ _).alloc (Nat.le_refl _) _⟩
  · have hd : decide (4000 < (s.size : Int)) = false := by simp; omega
    have hq : ((sep.size : Int) != 1) = true := by rw [bne_iff_ne]; omega
    clear h
    go_enter Try.func10, Try.ntmps10
    go_wp2
    go_ret2
    exact ⟨rfl, (Below.refl _ _).alloc (Nat.le_refl _) _⟩
theorem specGood (s sep : ByteArray) (hs : s.size ≤ 4000) (hp2 : 0 < sep.size) (hp1 : sep.size ≤ 1) (b : UInt8) (hb : sep[0] = b) (w : World) :
    Calls Try.prog 17 #[.string s, .string sep] w fun e W' => ∃ v, e = .returned (.tuple #[v, .bool true]) ∧ W'.ownsRow w.heap.size 9 1 v (parts s b).length ((parts s b).map Value.string) ∧ Below w.heap.size w W' := by
  have hS := Lib.hid (fun w => split_any s (by omega) b w)
  have hp : ((sep.size : Int) != 1) = false := by
    have : sep.size = 1 := by omega
    rw [this]; rfl
  have hd : decide (4000 < (s.size : Int)) = false := by simp; omega
  go_enter Try.func17, Try.ntmps17
  go_wp2_with (go_at_call 33; refine (hS.out _).mono ?_; rintro e w' ⟨v, rfl, ho, hbb⟩)
  exact bodyPost_ret (by simp [results, Try.results17, go_sem]) rfl ⟨v, rfl, ho, hbb⟩
theorem specBad (s sep : ByteArray) (hs : s.size ≤ 1048576) (h : 4000 < s.size ∨ sep.size ≠ 1) (w : World) :
    Calls Try.prog 17 #[.string s, .string sep] w fun e W' => e = .returned (.tuple #[.slice (some ⟨w.heap.size, 0, none⟩) 0 0, .bool false]) ∧ Below w.heap.size w W' := by
  by_cases h1 : sep.size = 1
  · have hd : decide (4000 < (s.size : Int)) = true := by simp; omega
    have hq : ((sep.size : Int) != 1) = false := by rw [h1]; rfl
    clear h h1
    go_enter Try.func17, Try.ntmps17
    go_wp2
    go_ret2
    exact ⟨rfl, (Below.refl _ _).alloc (Nat.le_refl _) _⟩
  · have hq : ((sep.size : Int) != 1) = true := by rw [bne_iff_ne]; omega
    clear h h1
    go_enter Try.func17, Try.ntmps17
    go_wp2
    go_ret2
    exact ⟨rfl, (Below.refl _ _).alloc (Nat.le_refl _) _⟩
end Go.Proofs.Ytlcgfohljkcngaa.SplitIm
