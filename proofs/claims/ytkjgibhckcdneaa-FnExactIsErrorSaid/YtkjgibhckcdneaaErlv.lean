/- impl.LeavesOf and spec.LeavesOf return the errors without parts in the walk of an error. -/
import Derived.Test.YtkjgibhckcdneaaErin
namespace Go.Proofs.Ytkjgibhckcdneaa.ErL
set_option linter.unusedVariables false
set_option linter.unusedSimpArgs false
open Go.ChangeShapes Go.WideShapes Go.ChangeAt Go.RowKit
open Mem IntsP ErP ErM ErT ErA ErU ErD ErW

/-- A list that grows: its block is the first one or newer than a world; of what that world held nothing else changes. -/
structure Grow (w2 : World) (lo h0 : Nat) (v : Value) (ys : List Int) (wr : World) : Prop where
  own : wr.ownsRow lo 3 1 v ys.length (cellsI ys)
  at_ : ∀ k, v.ownBlock = some k → k = h0 ∨ w2.heap.size ≤ k
  chg : Chg (fun b => b = h0) w2 wr
theorem Grow.push {w2 wr V w' : World} {lo h0 : Nat} {v v' : Value} {ys : List Int} {z : Int} (h : Grow w2 lo h0 v ys wr) (o : Obj) (hV : V = wr.alloc o)
    (ho : w'.ownsRow lo 3 1 v' (ys.length + 1) (cellsI ys ++ [.int .i64 z])) (hg : V.grownBy w' v.ownBlock) (ha : v'.ownBlock = v.ownBlock ∨ v'.ownBlock = some V.heap.size) : Grow w2 lo h0 v' (ys ++ [z]) w' := by
  subst hV
  have sz := h.chg.size
  refine ⟨by rw [List.length_append, List.length_singleton, cellsI_append]; exact ho, fun k hk => ?_, ?_⟩
  · rcases ha with ha | ha
    · exact h.at_ k (by rw [← ha]; exact hk)
    · rw [ha] at hk
      have : wr.heap.size + 1 = k := by simpa using hk
      omega
  · have h1 : Chg (fun b => b = h0) w2 (wr.alloc o) := h.chg.new o
    refine h1.trans (App.Chg.of_grown' (C := fun b => b = h0 ∨ w2.heap.size ≤ b) hg (fun k hk => h.at_ k hk)) (fun x hx hx2 => ?_)
    rcases hx2 with hx2 | hx2
    · exact hx2
    · omega
theorem own_alloc {w : World} {B e sz n : Nat} {v : Value} {xs : List Value} (h : w.ownsRow B e sz v n xs) (o : Obj) : (w.alloc o).ownsRow B e sz v n xs := own_below h ((Below.refl _ _).alloc (Nat.le_refl _) o) (Nat.le_refl _)
theorem own_drew {w : World} {B e sz n : Nat} {v : Value} {xs : List Value} (h : w.ownsRow B e sz v n xs) : w.drew.ownsRow B e sz v n xs := own_below h ((Below.refl w.heap.size w).drew) (Nat.le_refl _)

def isLeaf (e : Er) (a : List Int) (i : Nat) : Bool := decide (0 < getI a i) && decide ((nodeE e i).2.2.length = 0)
def leafs (e : Er) (a : List Int) (k : Nat) : List Int := ((List.range k).filter (isLeaf e a)).map (fun i : Nat => (i : Int))
theorem leafs_yes {e : Er} {a : List Int} {k : Nat} {s : En} (hs : e[k]? = some s) (h1 : 0 < getI a k) (h2 : s.2.2.length = 0) : leafs e a (k + 1) = leafs e a k ++ [(k : Int)] := by
  have : isLeaf e a k = true := by unfold isLeaf; rw [nodeE_at hs, decide_eq_true h1, decide_eq_true h2]; rfl
  unfold leafs; rw [List.range_succ, List.filter_append, List.map_append]; simp [this]
theorem leafs_no {e : Er} {a : List Int} {k : Nat} {s : En} (hs : e[k]? = some s) (h : ¬ (0 < getI a k ∧ s.2.2.length = 0)) : leafs e a (k + 1) = leafs e a k := by
  have : isLeaf e a k = false := by unfold isLeaf; rw [nodeE_at hs, ← Bool.not_eq_true, Bool.and_eq_true, decide_eq_true_eq, decide_eq_true_eq]; exact h
  unfold leafs; rw [List.range_succ, List.filter_append, List.map_append]; simp [this]
theorem leafs_len (e : Er) (a : List Int) (k : Nat) : (leafs e a k).length ≤ k := by
  unfold leafs; rw [List.length_map]; exact Nat.le_trans (List.length_filter_le _ _) (by simp)
def leavesR (e : Er) (x : Int) : List Int × Bool := if oneE e x then (leafs e (waysE e x.toNat) e.length, true) else ([], false)
theorem leaves_len (p : Er) (x : Int) : (leavesR p x).1.length ≤ 100000 := by
  unfold leavesR
  cases hfn : oneE p x with
  | false => simp
  | true =>
    obtain ⟨i, s, rfl, hin, hx, hok, h12⟩ := oneE_at hfn
    have := leafs_len p (waysE p i) p.length
    simp only [if_true, Int.toNat_natCast]
    omega

set_option maxRecDepth 100000 in
set_option maxHeartbeats 4000000 in
theorem leaI_any (lo n c : Nat) (A : Option Addr) (p : Er) (x : Int) (hn : n ≤ 2000000) (hl : p.length = n) (hsm : SmallE p 2000000) (w : World) (ho : OwnE w lo (.slice A n c) p) :
    Calls Try.prog 30 #[.agg #[.slice A n c], .int .i64 x] w (IntsR (leavesR p x) w) := by
  have hF := Lib.hid (fun w hr hB => isErrorOf_any w.heap.size A n c p x (by omega) hl (hsm.mono (by omega)) w hr hB)
  have b2 : ∀ o o' : Obj, Below w.heap.size w ((w.alloc o).alloc o') := fun o o' => ((Below.refl _ _).alloc (Nat.le_refl _) _).alloc (by simp) _
  have B2 := Lib.hid b2
  have hO := Lib.hid ho
  have hL := Lib.hid hl
  have hRd := Lib.hid ho.rd
  clear ho hl b2
  cases hfn : oneE p x with
  | false =>
    have hs := Lib.hid (show leavesR p x = ([], false) by unfold leavesR; rw [hfn]; rfl)
    rw [hfn] at hF
    clear hfn
    go_enter Try.func30, Try.ntmps30
    go_wp2_with fail
    refine (hF.out _ (hO.out.below (B2.out _ _)).rd (Nat.le_refl _)).mono ?_
    rintro e w1 ⟨rfl, b⟩
    have bb := Lib.hid ((B2.out (.cells #[.slice A n c] 29) (.cells #[] 3)).trans (b.mono (by simp; omega)))
    have hh : w1.heap[w.heap.size + 1]? = some (.cells #[] 3) := (b.block _ (by simp)).trans (heap2_1 w _ _)
    have HH := Lib.hid hh
    clear hh b
    go_wp2_with fail
    go_ret2
    rw [hs.out]
    exact ⟨_, 0, rfl, App.empty_own HH.out (by omega), bb.out⟩
  | true =>
    obtain ⟨x0, sx, rfl, hxn, hxx, hok, hn12⟩ := oneE_at hfn
    have hs := Lib.hid (show leavesR p x0 = (leafs p (waysE p x0) n, true) by unfold leavesR; rw [hfn, Int.toNat_natCast, hL.out]; rfl)
    rw [hL.out] at hxn hn12
    have hW := Lib.hid (fun W (hr : RdE W W.heap.size A p) => ways_any n c A p x0 hL.out hok hxn W hr)
    rw [hfn] at hF
    obtain ⟨i0, hi, hz0, hz1, hz2⟩ := info_parts info3
    clear hfn hxx hok hsm
    go_enter Try.func30, Try.ntmps30
    go_wp2_with fail
    refine (hF.out _ (hO.out.below (B2.out _ _)).rd (Nat.le_refl _)).mono ?_
    rintro e w1 ⟨rfl, b⟩
    have bb := Lib.hid ((B2.out (.cells #[.slice A n c] 29) (.cells #[] 3)).trans (b.mono (by simp; omega)))
    have hh : Blk w1 (w.heap.size + 1) 3 #[] := Blk.below (heap2_1 w _ _) b (by simp)
    have hb0 : Blk w1 w.heap.size 29 #[.slice A n c] := Blk.below (heap2_0 w _ _) b (by simp; omega)
    have z0 : w1.cell? ⟨w.heap.size, 0, none⟩ = some (.slice A n c) := hb0.cells 0
    have HH := Lib.hid hh
    have HB0 := Lib.hid hb0
    clear hh b hb0
    go_wp2_with fail
    refine (hW.out _ (hO.out.below bb.out).rd).mono ?_
    rintro e w2 ⟨g, rfl, hg1, hg2, hA, b3⟩
    have HA := Lib.hid hA
    have HH2 := Lib.hid (HH.out.below b3 HH.out.lt)
    have HB2 := Lib.hid (HB0.out.below b3 HB0.out.lt)
    have bb2 := Lib.hid (bb.out.trans (b3.mono bb.out.size))
    have l1 : w.heap.size + 1 < w1.heap.size := HH.out.lt
    have R2 := Lib.hid (hRd.out.below bb2.out)
    have hgr : Grow w2 (w.heap.size + 1) (w.heap.size + 1) (.slice (some ⟨w.heap.size + 1, 0, none⟩) 0 0) (leafs p (waysE p x0) 0) w2 :=
      ⟨App.empty_own HH2.out (Nat.le_refl _), fun k hk => .inl (by simpa [Value.ownBlock] using hk.symm), Chg.refl _ _⟩
    have HG := Lib.hid hgr
    clear hgr hA b3 z0 HH HB0 bb hF hW
    generalize waysE p x0 = a at *
    go_wp2_with fail
    go_loopw [6, 19] (fun v i wr => ∃ (k m : Nat) (Ag : Option Addr) (cg : Nat), k ≤ n ∧ i = .int .i64 k ∧ v = .slice Ag m cg ∧ m ≤ k ∧ Grow w2 (w.heap.size + 1) (w.heap.size + 1) (.slice Ag m cg) (leafs p a k) wr) (fun _ i _ => n - (intOf i).toNat)
    case atStart => exact ⟨0, 0, _, _, Nat.zero_le _, rfl, rfl, Nat.le_refl _, HG.out⟩
    case round =>
      obtain ⟨k, m, Ag, cg, hk, rfl, rfl, hmk, hG⟩ := hrel
      have hm : (leafs p a k).length = m := by
        rcases hG.own.2 with ⟨h1, h2⟩ | ⟨_, _, _, h1, _⟩
        · simp only [Value.slice.injEq] at h1; omega
        · simp only [Value.slice.injEq] at h1; omega
      have G := Lib.hid hG
      have HM := Lib.hid hm
      have A2 := Lib.hid (HA.out.chg hG.chg (by omega))
      have zr : wr.cell? ⟨w.heap.size, 0, none⟩ = some (.slice A n c) := (HB2.out.chg hG.chg (by omega)).cells 0
      have R3 := Lib.hid (rdE_chg R2.out hG.chg (by omega) (fun b hb => by omega))
      clear hG hm
      by_cases hlt : k < n
      · obtain ⟨s, hsx⟩ : ∃ s, p[k]? = some s := ⟨_, List.getElem?_eq_getElem (by rw [hL.out]; exact hlt)⟩
        obtain ⟨ad, Ai, ci, rfl, hab, c0, c1, c2, c3⟩ := R3.out k _ hsx
        obtain ⟨e1, e2⟩ := A2.out.at hlt
        have HS := Lib.hid hsx
        clear hsx c3
        by_cases h1 : 0 < getI a k
        case neg =>
          have hN := Lib.hid (leafs_no (a := a) HS.out (fun h => h1 h.1))
          generalize getI a k = z at *
          go_wp2_with fail
          go_roundw
          case rel => exact ⟨k + 1, m, _, _, by omega, by go_num, rfl, by omega, by rw [hN.out]; exact G.out⟩
          case measure => simp [intOf]; omega
        case pos =>
        by_cases h2 : s.2.2.length = 0
        case neg =>
          have hN := Lib.hid (leafs_no (a := a) HS.out (fun h => h2 h.2))
          generalize getI a k = z at *
          generalize s.2.2.length = ms at *
          have hms : 0 < ms := by omega
          clear h2
          go_wp2_with fail
          go_roundw
          case rel => exact ⟨k + 1, m, _, _, by omega, by go_num, rfl, by omega, by rw [hN.out]; exact G.out⟩
          case measure => simp [intOf]; omega
        case pos =>
        have hN := Lib.hid (leafs_yes (a := a) HS.out h1 h2)
        rw [h2] at c2
        generalize getI a k = z at *
        clear h2
        have hown : wr.ownsRow (w.heap.size + 1) 3 1 (.slice Ag m cg) m (cellsI (leafs p a k)) := by have := G.out.own; rwa [HM.out] at this
        have hsz := G.out.chg.size
        have l2 := HB2.out.lt
        have HOW := Lib.hid hown
        clear hown
        go_wp2_with (at_builtin; refine App.row_list _ rfl (.tmp 36) (.tmp 38) 33 rfl (w.heap.size + 1) 0 3 i0 _ 1 8 Try.underlying33 hi hz0 hz1 hz2 rfl (by decide) (.slice Ag m cg) m (cellsI (leafs p a k)) rfl (own_alloc HOW.out _) (.slice (some ⟨wr.heap.size, 0, none⟩) 1 1) 1 [.int .i64 (k : Int)] rfl (App.one_own (heap1_0 wr _)) (by intro u hu; simp at hu; rw [hu]; rfl) (by unfold maxLen; omega) (by omega) (by simp; omega) ?_)
        intro v1 w3 o1 g1 t1
        have hp := G.out.push (z := (k : Int)) (v' := v1) (w' := w3) (.cells #[.int .i64 (k : Int)] 3) rfl (by rw [HM.out]; exact o1) g1 (by simpa using t1)
        rw [← hN.out] at hp
        have HP := Lib.hid hp
        obtain ⟨A1, c1', rfl⟩ := own_slice o1
        clear o1 g1 t1 hp
        go_wp2_with fail
        go_roundw
        case rel => exact ⟨k + 1, m + 1, _, _, by omega, by go_num, rfl, by omega, HP.out⟩
        case measure => simp [intOf]; omega
      · obtain rfl : k = n := by omega
        go_wp2_with fail
        go_ret2
        rw [hs.out]
        refine ⟨Ag, cg, by simp only [HM.out]; rfl, ?_, bb2.out.trans (G.out.chg.below (by have := bb2.out.size; omega) (fun b hb => by omega))⟩
        simp only [OwnI]
        have := own_mono (B' := w.heap.size) G.out.own (by omega)
        rw [HM.out] at this ⊢
        exact this
set_option maxRecDepth 100000 in
set_option maxHeartbeats 4000000 in
theorem leaS_any (lo n c : Nat) (A : Option Addr) (p : Er) (x : Int) (hn : n ≤ 2000000) (hl : p.length = n) (hsm : SmallE p 2000000) (w : World) (ho : OwnE w lo (.slice A n c) p) :
    Calls Try.prog 29 #[.agg #[.slice A n c], .int .i64 x] w (IntsR (leavesR p x) w) := by
  have hF := Lib.hid (fun w hr hB => l6One_any w.heap.size A n c p x (by omega) hl (hsm.mono (by omega)) w hr hB)
  have b2 : ∀ o o' : Obj, Below w.heap.size w ((w.alloc o).alloc o') := fun o o' => ((Below.refl _ _).alloc (Nat.le_refl _) _).alloc (by simp) _
  have B2 := Lib.hid b2
  have hO := Lib.hid ho
  have hL := Lib.hid hl
  have hRd := Lib.hid ho.rd
  clear ho hl b2
  cases hfn : oneE p x with
  | false =>
    have hs := Lib.hid (show leavesR p x = ([], false) by unfold leavesR; rw [hfn]; rfl)
    rw [hfn] at hF
    clear hfn
    go_enter Try.func29, Try.ntmps29
    go_wp2_with fail
    refine (hF.out _ (hO.out.below (B2.out _ _)).rd (Nat.le_refl _)).mono ?_
    rintro e w1 ⟨rfl, b⟩
    have bb := Lib.hid ((B2.out (.cells #[.slice A n c] 29) (.cells #[] 3)).trans (b.mono (by simp; omega)))
    have hh : w1.heap[w.heap.size + 1]? = some (.cells #[] 3) := (b.block _ (by simp)).trans (heap2_1 w _ _)
    have HH := Lib.hid hh
    clear hh b
    go_wp2_with fail
    go_ret2
    rw [hs.out]
    exact ⟨_, 0, rfl, App.empty_own HH.out (by omega), bb.out⟩
  | true =>
    obtain ⟨x0, sx, rfl, hxn, hxx, hok, hn12⟩ := oneE_at hfn
    have hs := Lib.hid (show leavesR p x0 = (leafs p (waysE p x0) n, true) by unfold leavesR; rw [hfn, Int.toNat_natCast, hL.out]; rfl)
    rw [hL.out] at hxn hn12
    have hW := Lib.hid (fun W (hr : RdE W W.heap.size A p) => in_any n c A p x0 hL.out hok hxn W hr)
    rw [hfn] at hF
    obtain ⟨i0, hi, hz0, hz1, hz2⟩ := info_parts info3
    clear hfn hxx hok hsm
    go_enter Try.func29, Try.ntmps29
    go_wp2_with fail
    refine (hF.out _ (hO.out.below (B2.out _ _)).rd (Nat.le_refl _)).mono ?_
    rintro e w1 ⟨rfl, b⟩
    have bb := Lib.hid ((B2.out (.cells #[.slice A n c] 29) (.cells #[] 3)).trans (b.mono (by simp; omega)))
    have hh : Blk w1 (w.heap.size + 1) 3 #[] := Blk.below (heap2_1 w _ _) b (by simp)
    have hb0 : Blk w1 w.heap.size 29 #[.slice A n c] := Blk.below (heap2_0 w _ _) b (by simp; omega)
    have z0 : w1.cell? ⟨w.heap.size, 0, none⟩ = some (.slice A n c) := hb0.cells 0
    have HH := Lib.hid hh
    have HB0 := Lib.hid hb0
    clear hh b hb0
    go_wp2_with fail
    refine (hW.out _ (hO.out.below bb.out).rd).mono ?_
    rintro e w2 ⟨g, rfl, hg1, hg2, hA, b3⟩
    have HA := Lib.hid hA
    have HH2 := Lib.hid (HH.out.below b3 HH.out.lt)
    have HB2 := Lib.hid (HB0.out.below b3 HB0.out.lt)
    have bb2 := Lib.hid (bb.out.trans (b3.mono bb.out.size))
    have l1 : w.heap.size + 1 < w1.heap.size := HH.out.lt
    have R2 := Lib.hid (hRd.out.below bb2.out)
    have hgr : Grow w2 (w.heap.size + 1) (w.heap.size + 1) (.slice (some ⟨w.heap.size + 1, 0, none⟩) 0 0) (leafs p (waysE p x0) 0) w2 :=
      ⟨App.empty_own HH2.out (Nat.le_refl _), fun k hk => .inl (by simpa [Value.ownBlock] using hk.symm), Chg.refl _ _⟩
    have HG := Lib.hid hgr
    clear hgr hA b3 z0 HH HB0 bb hF hW
    generalize waysE p x0 = a at *
    go_wp2_with fail
    go_loopw [6, 8] (fun v i wr => ∃ (k m : Nat) (Ag : Option Addr) (cg : Nat), k ≤ n ∧ i = .int .i64 k ∧ v = .slice Ag m cg ∧ m ≤ k ∧ Grow w2 (w.heap.size + 1) (w.heap.size + 1) (.slice Ag m cg) (leafs p a k) wr) (fun _ i _ => n - (intOf i).toNat)
    case atStart => exact ⟨0, 0, _, _, Nat.zero_le _, rfl, rfl, Nat.le_refl _, HG.out⟩
    case round =>
      obtain ⟨k, m, Ag, cg, hk, rfl, rfl, hmk, hG⟩ := hrel
      have hm : (leafs p a k).length = m := by
        rcases hG.own.2 with ⟨h1, h2⟩ | ⟨_, _, _, h1, _⟩
        · simp only [Value.slice.injEq] at h1; omega
        · simp only [Value.slice.injEq] at h1; omega
      have G := Lib.hid hG
      have HM := Lib.hid hm
      have A2 := Lib.hid (HA.out.chg hG.chg (by omega))
      have zr : wr.cell? ⟨w.heap.size, 0, none⟩ = some (.slice A n c) := (HB2.out.chg hG.chg (by omega)).cells 0
      have R3 := Lib.hid (rdE_chg R2.out hG.chg (by omega) (fun b hb => by omega))
      clear hG hm
      by_cases hlt : k < n
      · obtain ⟨s, hsx⟩ : ∃ s, p[k]? = some s := ⟨_, List.getElem?_eq_getElem (by rw [hL.out]; exact hlt)⟩
        obtain ⟨ad, Ai, ci, rfl, hab, c0, c1, c2, c3⟩ := R3.out k _ hsx
        obtain ⟨e1, e2⟩ := A2.out.at hlt
        have HS := Lib.hid hsx
        clear hsx c3
        by_cases h1 : 0 < getI a k
        case neg =>
          have hN := Lib.hid (leafs_no (a := a) HS.out (fun h => h1 h.1))
          rw [decide_eq_false h1] at e1
          go_wp2_with fail
          go_roundw
          case rel => exact ⟨k + 1, m, _, _, by omega, by go_num, rfl, by omega, by rw [hN.out]; exact G.out⟩
          case measure => simp [intOf]; omega
        case pos =>
        rw [decide_eq_true h1] at e1
        by_cases h2 : s.2.2.length = 0
        case neg =>
          have hN := Lib.hid (leafs_no (a := a) HS.out (fun h => h2 h.2))
          generalize getI a k = z at *
          generalize s.2.2.length = ms at *
          have hms : 0 < ms := by omega
          clear h2
          go_wp2_with fail
          go_roundw
          case rel => exact ⟨k + 1, m, _, _, by omega, by go_num, rfl, by omega, by rw [hN.out]; exact G.out⟩
          case measure => simp [intOf]; omega
        case pos =>
        have hN := Lib.hid (leafs_yes (a := a) HS.out h1 h2)
        rw [h2] at c2
        generalize getI a k = z at *
        clear h2
        have hown : wr.ownsRow (w.heap.size + 1) 3 1 (.slice Ag m cg) m (cellsI (leafs p a k)) := by have := G.out.own; rwa [HM.out] at this
        have hsz := G.out.chg.size
        have l2 := HB2.out.lt
        have HOW := Lib.hid hown
        clear hown
        go_wp2_with (at_builtin; refine App.row_list _ rfl (.tmp 38) (.tmp 40) 33 rfl (w.heap.size + 1) 0 3 i0 _ 1 8 Try.underlying33 hi hz0 hz1 hz2 rfl (by decide) (.slice Ag m cg) m (cellsI (leafs p a k)) rfl (own_alloc HOW.out _) (.slice (some ⟨wr.heap.size, 0, none⟩) 1 1) 1 [.int .i64 (k : Int)] rfl (App.one_own (heap1_0 wr _)) (by intro u hu; simp at hu; rw [hu]; rfl) (by unfold maxLen; omega) (by omega) (by simp; omega) ?_)
        intro v1 w3 o1 g1 t1
        have hp := G.out.push (z := (k : Int)) (v' := v1) (w' := w3) (.cells #[.int .i64 (k : Int)] 3) rfl (by rw [HM.out]; exact o1) g1 (by simpa using t1)
        rw [← hN.out] at hp
        have HP := Lib.hid hp
        obtain ⟨A1, c1', rfl⟩ := own_slice o1
        clear o1 g1 t1 hp
        go_wp2_with fail
        go_roundw
        case rel => exact ⟨k + 1, m + 1, _, _, by omega, by go_num, rfl, by omega, HP.out⟩
        case measure => simp [intOf]; omega
      · obtain rfl : k = n := by omega
        go_wp2_with fail
        go_ret2
        rw [hs.out]
        refine ⟨Ag, cg, by simp only [HM.out]; rfl, ?_, bb2.out.trans (G.out.chg.below (by have := bb2.out.size; omega) (fun b hb => by omega))⟩
        simp only [OwnI]
        have := own_mono (B' := w.heap.size) G.out.own (by omega)
        rw [HM.out] at this ⊢
        exact this
end Go.Proofs.Ytkjgibhckcdneaa.ErL
