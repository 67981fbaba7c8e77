/- resources returns the open resources in the order of their last opening entries. -/
import Derived.Test.YtikdcnlbjpabjaaDoorEmo
namespace Go.Proofs.YtikdcnlbjpabjaaDoor.EntL
set_option linter.unusedVariables false
set_option linter.unusedSimpArgs false
open Go.ChangeShapes Go.WideShapes Go.ChangeAt Go.RowKit Go.Maps
open Mem IntsP LiP EntP GrwP EntS

/-- The keys that have come so far. -/
structure Come (o ys : List Int) (left : Lit → Bool) : Prop where
  nd : ys.Nodup
  iff : ∀ n, n ∈ ys ↔ (n ∈ o ∧ left (keyI n) = false)
theorem sameKey_int (n x : Int) : (keyI n).sameKey (.int .i64 x) = decide (n = x) := by
  by_cases h : n = x
  · subst h; simp [keyI, Lit.sameKey]
  · simp [keyI, Lit.sameKey, h]
theorem Come.start {o : List Int} {left : Lit → Bool} (h : ∀ n ∈ o, left (keyI n) = true) : Come o [] left := by
  refine ⟨List.nodup_nil, fun n => ?_⟩
  constructor
  · intro hn; simp at hn
  · rintro ⟨h1, h2⟩; rw [h n h1] at h2; simp at h2
theorem Come.step {o ys : List Int} {left : Lit → Bool} {x : Int} (h : Come o ys left) (hx : x ∈ o) (hl : left (.int .i64 x) = true) : Come o (ys ++ [x]) (fun z => left z && !z.sameKey (.int .i64 x)) := by
  have hny : x ∉ ys := fun hc => by
    have := ((h.iff x).1 hc).2
    unfold keyI at this
    rw [hl] at this; simp at this
  refine ⟨?_, fun n => ?_⟩
  · rw [List.nodup_append]
    refine ⟨h.nd, by simp, ?_⟩
    intro a ha b hb e
    rw [List.mem_singleton] at hb
    subst hb; subst e
    exact hny ha
  · rw [List.mem_append, List.mem_singleton, h.iff, sameKey_int]
    by_cases e : n = x
    · subst e; simp [hx]
    · simp [e]
theorem nodup_le : ∀ {ys o : List Int}, ys.Nodup → o.Nodup → (∀ n ∈ ys, n ∈ o) → ys.length ≤ o.length
  | [], o, _, _, _ => Nat.zero_le _
  | y :: ys, o, h, ho, hs => by
    rw [List.nodup_cons] at h
    have h1 := dropI_len_mem ho (hs y (List.mem_cons_self ..))
    have h2 := nodup_le h.2 (dropI_nodup (n := y) ho) (fun n hn => mem_dropI.2 ⟨hs n (List.mem_cons_of_mem _ hn), fun e => h.1 (e ▸ hn)⟩)
    rw [List.length_cons]; omega
theorem Come.len {o ys : List Int} {left : Lit → Bool} (h : Come o ys left) (ho : o.Nodup) : ys.length ≤ o.length := nodup_le h.nd ho (fun n hn => ((h.iff n).1 hn).1)
theorem Come.perm {o ys : List Int} {left : Lit → Bool} (h : Come o ys left) (ho : o.Nodup) (hl : ∀ z, left z = false) : ys.Perm o :=
  (List.perm_ext_iff_of_nodup h.nd ho).2 (fun n => by rw [h.iff]; simp [hl])
set_option maxRecDepth 100000 in
set_option maxHeartbeats 4000000 in
theorem resources_any (b i : Nat) (o : List Int) (hi : i ≤ 100000) (hpos : ∀ y ∈ o, 0 < y ∧ y ≤ 32767) (hlo : o.length ≤ 1000) (w : World) (h : Led w b o i) :
    Calls Tryd.prog 51 #[.agg #[.map (some b)]] w (OneR o w) := by
  obtain ⟨D, n, hown, hn, hm⟩ := h
  have HMo := Lib.hid hm
  have hbl := hown.lt
  have HP := Lib.hid hpos
  have hst := Lib.hid (fun n (hn : n ∈ o) => (hm.has_ n).trans (decide_eq_true hn))
  obtain ⟨i0, hi0, hz0, hz1, hz2⟩ := info_parts info3
  have e2 : ((w.alloc (.cells #[.map (some b)] 63)).alloc (.cells #[] 3)).heap.size = w.heap.size + 2 := by simp
  clear hm hpos
  go_enter Tryd.func51, Tryd.ntmps51
  go_wp2_with (first
    | (at_range; refine wpList_range_own _ rfl _ 61 rfl 3 3 lawI Tryd.underlying61 _ b n _ rfl ((hown.alloc _).alloc _) ?_; intro w0 hrg0 hg0 hs0)
    | go_in)
  go_frame
  rw [e2] at hrg0 hs0 ⊢
  have hb1 : w0.heap[w.heap.size + 1]? = some (.cells #[] 3) := (hg0.block _ (by simp) (by simp)).trans (heap2_1 w _ _)
  have hb0 : Blk w0 w.heap.size 63 #[.map (some b)] := (hg0.block _ (by simp; omega) (by simp)).trans (heap2_0 w _ _)
  have hc0 : w0.cell? ⟨w.heap.size, 0, none⟩ = some (.map (some b)) := hb0.cells 0
  have hbw : Below w.heap.size w w0 := (((Below.refl _ _).alloc (Nat.le_refl _) _).alloc (by simp) _).trans ((Chg.of_grown hg0).below (by simp; omega) (fun x hx hc => by cases hc))
  have HOW := Lib.hid (App.empty_own (size := 1) hb1 (Nat.le_refl _))
  have HBW := Lib.hid hbw
  clear hb1 hb0 hg0 hbw
  generalize hr : w.heap.size + 2 = r at *
  go_loopw [3] (fun v wr => ∃ (left : Lit → Bool) (cnt : Nat) (ys : List Int) (m : Nat) (A : Option Addr) (c : Nat), wr.ranges Tryd.prog 3 (plainElem Tryd.prog 3) b r n D left cnt ∧ v = .slice A m c ∧ ys.length = m ∧
      wr.ownsRow (w.heap.size + 1) 3 1 (.slice A m c) m (cellsI ys) ∧ (∀ k, (Value.slice A m c).ownBlock = some k → k ≠ r) ∧ Come o ys left ∧ wr.cell? ⟨w.heap.size, 0, none⟩ = some (.map (some b)) ∧ Below w.heap.size w wr)
    (fun _ wr => wr.rangeLeft b r)
  case atStart =>
    refine ⟨_, _, [], 0, _, _, hrg0, rfl, rfl, HOW.out, fun k hk => ?_, Come.start hst.out, hc0, HBW.out⟩
    simp [Value.ownBlock] at hk
    omega
  case round =>
    obtain ⟨left, cnt, ys, m, A, c, hrg, rfl, hym, how, hner, hcm, hcx, hbl2⟩ := hrel
    have HO := Lib.hid how
    have HNE := Lib.hid hner
    have HC := Lib.hid hcm
    have HB := Lib.hid hbl2
    have szr := hbl2.size
    have hlen := hcm.len HMo.out.nd
    clear how hner hcm hbl2 hrg0 hc0 HOW HBW
    go_wp2_with (first
      | (at_next; refine wpList_next_ranges_ii _ rfl _ rfl 3 3 .i64 .i64 lawI Tryd.underlying3 Tryd.underlying3 b r n _ _ _ rfl hrg ?_ ?_)
      | go_in)
    · intro hc0 hl0
      have hpm := HC.out.perm HMo.out.nd hl0
      have hS := Lib.hid (sortO_any (w.heap.size + 1) m c b w.heap.size n i A ys o D hym (by omega) hi hpm (fun y hy => by have := HP.out y (hpm.mem_iff.1 hy); unfold inN; omega) HMo.out wr HO.out hcx hrg.owns (by omega) (by omega))
      have hol : o.length = m := by rw [← hpm.length_eq, hym]
      have HOL := Lib.hid hol
      clear hl0 hpm hcx hol
      go_wp2_with fail
      refine hS.out.mono ?_
      rintro e w3 ⟨rfl, ho3, hc3⟩
      have HO3 := Lib.hid ho3
      have HB3 := Lib.hid (HB.out.trans (hc3.below szr (fun x hx hc => by have := (own_lt HO.out hc).1; omega)))
      clear ho3 hc3
      go_wp2_with fail
      go_ret
      refine ⟨A, c, by rw [HOL.out]; rfl, ?_, HB3.out⟩
      unfold OwnI
      rw [HOL.out]
      exact own_mono HO3.out (Nat.le_succ _)
    · intro x cc w1 cnt1 hwx hwc hlx hat hrg1 hlt hg1 hs1 hen
      have hxo : x ∈ o := by
        have h1 := has_true_of_atKey hat
        have h2 := HMo.out.has_ x
        unfold keyI at h2
        rw [h1] at h2
        exact of_decide_eq_true h2.symm
      have HC1 := Lib.hid (HC.out.step hxo hlx)
      have hlen1 := HC1.out.len HMo.out.nd
      have HO1 := Lib.hid (own_chg HO.out (Chg.of_grown hg1) (fun k hk hc => HNE.out k hk (Option.some.inj hc)))
      have hcx1 : w1.cell? ⟨w.heap.size, 0, none⟩ = some (.map (some b)) := ((Chg.of_grown hg1).cell (p := ⟨w.heap.size, 0, none⟩) (World.block_lt_of_cell? wr _ hcx) (by intro hc; have : w.heap.size = r := Option.some.inj hc; omega)).trans hcx
      have HB1 := Lib.hid (HB.out.trans ((Chg.of_grown hg1).below szr (fun x hx hc => by have := Option.some.inj hc; omega)))
      rw [List.length_append, List.length_singleton] at hlen1
      have hml : m + 1 ≤ 1000 := by omega
      have szr1 := HB1.out.size
      have hrlt := hrg.lt
      have HS1 := Lib.hid hs1
      clear hat hg1 hs1
      go_wp2_with (first
        | (at_builtin; refine App.row_list _ rfl (.tmp 13) (.tmp 15) 22 rfl (w.heap.size + 1) 0 3 i0 _ 1 8 Tryd.underlying22 hi0 hz0 hz1 hz2 rfl (by decide) (.slice A m c) m (cellsI ys) rfl (own_alloc HO1.out _) (.slice (some ⟨w1.heap.size, 0, none⟩) 1 1) 1 [.int .i64 x] rfl (App.one_own (heap1_0 w1 _)) (by intro u hu; simp at hu; rw [hu]; rfl) (by unfold maxLen; omega) (by omega) (by simp; omega) ?_)
        | go_in)
      intro v2 w2 o2 g2 t2
      have hga : w1.grownBy (w1.alloc (.cells #[.int .i64 x] 3)) none := World.grownBy_alloc _ _ _
      have hbr : b < w.heap.size := hbl
      have hgm : w1.grownBy w2 (Value.slice A m c).ownBlock := (hga.but _).andThen g2 (fun j hj => .inr hj)
      have hrg2 := hrg1.kept hgm (fun e => by have := (own_lt HO1.out e.symm).1; omega) (fun e => HNE.out _ e.symm rfl)
      have hcx2 : w2.cell? ⟨w.heap.size, 0, none⟩ = some (.map (some b)) := ((Chg.of_grown hgm).cell (p := ⟨w.heap.size, 0, none⟩) (World.block_lt_of_cell? w1 _ hcx1) (by intro hc; have := (own_lt HO1.out hc.symm).1; have : w.heap.size + 1 ≤ w.heap.size := this; omega)).trans hcx1
      have HB2 := Lib.hid (HB1.out.trans ((Chg.of_grown hgm).below szr1 (fun x hx hc => by have := (own_lt HO1.out hc.symm).1; omega)))
      have hne2 : ∀ k, v2.ownBlock = some k → k ≠ r := fun k hk => by
        rcases t2 with ha | ha
        · exact HNE.out k (by rw [← ha]; exact hk)
        · rw [ha] at hk
          have : w1.heap.size + 1 = k := by simpa using hk
          have := HS1.out
          omega
      have HNE2 := Lib.hid hne2
      have HO2 := Lib.hid (show w2.ownsRow (w.heap.size + 1) 3 1 v2 (m + 1) (cellsI (ys ++ [x])) by rw [cellsI_append]; exact o2)
      obtain ⟨A2, c2, rfl⟩ := own_slice o2
      clear o2 g2 t2 hga hgm hne2
      go_wp2_with fail
      go_roundw
      case rel => exact ⟨_, cnt1, ys ++ [x], m + 1, A2, c2, hrg2, rfl, by rw [List.length_append, List.length_singleton, hym], HO2.out, HNE2.out, HC1.out, hcx2, HB2.out⟩
      case measure => rw [hrg2.left_eq, hrg.left_eq]; exact hlt
end Go.Proofs.YtikdcnlbjpabjaaDoor.EntL
