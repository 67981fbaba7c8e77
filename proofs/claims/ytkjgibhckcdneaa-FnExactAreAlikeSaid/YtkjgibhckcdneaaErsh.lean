/- impl.sameShape tells whether two errors are alike, of whose parts the classes are known. -/
import Derived.Test.YtkjgibhckcdneaaErde
import Derived.Test.YtkjgibhckcdneaaErsp
import Derived.Laws.EntriesVeiled
namespace Go.Proofs.Ytkjgibhckcdneaa.ErS
set_option linter.unusedVariables false
set_option linter.unusedSimpArgs false
open Go.ChangeShapes Go.WideShapes Go.ChangeAt Go.RowKit
open Mem IntsP ErP ErM ErT ErA ErU ErD

theorem beqZ (x y : Int) : (x == y) = decide (x = y) := by rw [Bool.eq_iff_iff]; simp
set_option maxRecDepth 100000 in
theorem shapeC_any (q r b g n : Nat) (a : List Int) (hq : q < n) (hr : r < n) (hn : n ≤ 2000000) (w : World) (hb : w.cell? ⟨b, 0, none⟩ = some (.slice (some ⟨g, 0, none⟩) n n)) (hA : Arr w g n a) :
    Calls Try.prog 82 #[.int .i64 q, .int .i64 r, .pointer (some ⟨b, 0, none⟩)] w fun e w' => e = .returned (.bool (decide (getI a q = getI a r))) ∧ Below w.heap.size w w' := by
  obtain ⟨e1, e2⟩ := hA.at hq
  obtain ⟨e3, e4⟩ := hA.at hr
  clear hA
  generalize getI a q = x at *
  generalize getI a r = y at *
  go_enter Try.func82, Try.ntmps82
  go_wp2_with fail
  refine wp_region_still_tail 9 (by kernel_rfl) (by kernel_rfl) ?_
  simp only [List.take_succ_cons, List.take_zero, List.drop_succ_cons, List.drop_zero]
  change wpStill _ _ w.drew _ _ _
  have hb' : w.drew.cell? ⟨b, 0, none⟩ = some (.slice (some ⟨g, 0, none⟩) n n) := hb
  have e1' : w.drew.cell? ⟨g, q, none⟩ = some (.int .i64 x) := e1
  have e3' : w.drew.cell? ⟨g, r, none⟩ = some (.int .i64 y) := e3
  repeat still_step
  refine wpStill_nil ?_
  change wpList _ _ _ _ _ w.drew
  go_wp2_with fail
  go_ret
  exact ⟨by rw [← beqZ]; rfl, (Below.refl _ _).drew⟩

def sameD (k k' d d' : Int) (u v : List Int) : Bool := decide (k = k' ∧ d = d' ∧ u = v)
def mapG (a : List Int) (xs : List Int) : List Int := xs.map (fun p => getI a p.toNat)
set_option maxRecDepth 100000 in
set_option maxHeartbeats 2000000 in
theorem equalF_any (B b g n : Nat) (a : List Int) (A A' : Option Addr) (m c m' c' : Nat) (xs ys : List Int) (hm : m ≤ 2000000) (hm' : m' ≤ 2000000) (hl : xs.length = m) (hl' : ys.length = m')
    (hin : ∀ (j : Nat) (z : Int), xs[j]? = some z → ∃ q : Nat, z = q ∧ q < n) (hin' : ∀ (j : Nat) (z : Int), ys[j]? = some z → ∃ q : Nat, z = q ∧ q < n) (hn : n ≤ 2000000)
    (w : World) (hr : RdI w B A xs) (hr' : RdI w B A' ys) (hB : B ≤ w.heap.size) (hb : Blk w b 33 #[.slice (some ⟨g, 0, none⟩) n n]) (hA : Arr w g n a) (hg : g < w.heap.size) :
    Calls Try.prog 81 #[.slice A m c, .slice A' m' c', .func (.func 82) #[] #[.pointer (some ⟨b, 0, none⟩)]] w fun e w' => e = .returned (.bool (decide (mapG a xs = mapG a ys))) ∧ Below w.heap.size w w' := by
  have hR := Lib.hid hr
  have hR' := Lib.hid hr'
  have hL := Lib.hid hl
  have hL' := Lib.hid hl'
  have hI := Lib.hid hin
  have hI' := Lib.hid hin'
  have hBx := Lib.hid hb
  have hAr := Lib.hid hA
  clear hr hr' hl hl' hin hin' hb hA
  by_cases hne : m = m'
  case neg =>
    have hs := Lib.hid (show decide (mapG a xs = mapG a ys) = false by
      rw [decide_eq_false_iff_not]
      intro h
      have := congrArg List.length h
      unfold mapG at this
      rw [List.length_map, List.length_map, hL.out, hL'.out] at this
      exact hne this)
    have hne2 : ((m : Int) != (m' : Int)) = true := by simp; omega
    clear hne
    go_enter Try.func81, Try.ntmps81
    go_wp2_with fail
    go_ret
    exact ⟨by rw [hs.out]; rfl, Below.refl _ _⟩
  case pos =>
  subst hne
  go_enter Try.func81, Try.ntmps81
  go_wp2_with fail
  go_loopw [17] (fun i wr => ∃ j : Nat, j ≤ m ∧ i = .int .i64 j ∧ Hid (mapG a (xs.take j) = mapG a (ys.take j)) ∧ Below w.heap.size w wr) (fun i _ => m - (intOf i).toNat)
  case atStart => exact ⟨0, Nat.zero_le _, rfl, Lib.hid rfl, Below.refl _ _⟩
  case round =>
    obtain ⟨j, hj, rfl, HE, hbl⟩ := hrel
    have hsz := hbl.size
    have HB := Lib.hid hbl
    by_cases hjl : j < m
    · obtain ⟨x, hx⟩ : ∃ z, xs[j]? = some z := ⟨_, List.getElem?_eq_getElem (by rw [hL.out]; exact hjl)⟩
      obtain ⟨y, hy⟩ : ∃ z, ys[j]? = some z := ⟨_, List.getElem?_eq_getElem (by rw [hL'.out]; exact hjl)⟩
      obtain ⟨qx, rfl, hqx⟩ := hI.out j x hx
      obtain ⟨qy, rfl, hqy⟩ := hI'.out j y hy
      obtain ⟨ad, rfl, hab, d0⟩ := (hR.out.below (hbl.mono hB)) j _ hx
      obtain ⟨ad', rfl, hab', d0'⟩ := (hR'.out.below (hbl.mono hB)) j _ hy
      have HC := Lib.hid (shapeC_any qx qy b g n a hqx hqy hn wr ((hBx.out.below hbl hBx.out.lt).cells 0) (hAr.out.chg (Chg.of_below (C := fun _ => False) hbl) (fun h => h)))
      have hS : mapG a (xs.take (j + 1)) = mapG a (xs.take j) ++ [getI a qx] := by unfold mapG; rw [List.take_add_one, hx]; simp
      have hS' : mapG a (ys.take (j + 1)) = mapG a (ys.take j) ++ [getI a qy] := by unfold mapG; rw [List.take_add_one, hy]; simp
      have HS := Lib.hid hS
      have HS' := Lib.hid hS'
      have HX := Lib.hid hx
      have HY := Lib.hid hy
      clear hx hy hS hS' hbl
      go_wp2_with fail
      refine HC.out.mono ?_
      rintro e w5 ⟨rfl, b5⟩
      have HB5 := Lib.hid (HB.out.trans (b5.mono hsz))
      clear b5
      by_cases hxy : getI a qx = getI a qy
      · rw [decide_eq_true hxy]
        have HN : Hid (mapG a (xs.take (j + 1)) = mapG a (ys.take (j + 1))) := Lib.hid (by rw [HS.out, HS'.out, HE.out, hxy])
        clear hxy
        go_wp2_with fail
        go_roundw
        case rel => exact ⟨j + 1, by omega, by go_num, HN, HB5.out⟩
        case measure => simp [intOf]; omega
      · rw [decide_eq_false hxy]
        have hs := Lib.hid (show decide (mapG a xs = mapG a ys) = false by
          rw [decide_eq_false_iff_not]
          intro h
          have h2 := congrArg (fun l => l[j]?) h
          unfold mapG at h2
          simp only [List.getElem?_map, HX.out, HY.out, Option.map_some, Int.toNat_natCast, Option.some.injEq] at h2
          exact hxy h2)
        clear hxy
        go_wp2_with fail
        go_ret
        exact ⟨by rw [hs.out]; rfl, HB5.out⟩
    · obtain rfl : j = m := by omega
      have hs := Lib.hid (show decide (mapG a xs = mapG a ys) = true by
        rw [decide_eq_true_iff]
        have := HE.out
        rwa [List.take_of_length_le (by rw [hL.out]; exact Nat.le_refl _), List.take_of_length_le (by rw [hL'.out]; exact Nat.le_refl _)] at this)
      go_wp2_with fail
      go_ret
      exact ⟨by rw [hs.out]; rfl, HB.out⟩

set_option maxRecDepth 100000 in
set_option maxHeartbeats 2000000 in
theorem sameShape_any (B g n : Nat) (a : List Int) (k d k' d' : Int) (A A' : Option Addr) (m c m' c' : Nat) (xs ys : List Int) (hm : m ≤ 2000000) (hm' : m' ≤ 2000000) (hl : xs.length = m) (hl' : ys.length = m')
    (hin : ∀ (j : Nat) (z : Int), xs[j]? = some z → ∃ q : Nat, z = q ∧ q < n) (hin' : ∀ (j : Nat) (z : Int), ys[j]? = some z → ∃ q : Nat, z = q ∧ q < n) (hn : n ≤ 2000000)
    (w : World) (hr : RdI w B A xs) (hr' : RdI w B A' ys) (hB : B ≤ w.heap.size) (hA : Arr w g n a) (hg : g < w.heap.size) :
    Calls Try.prog 75 #[.agg #[.int .i64 k, .int .i64 d, .slice A m c], .agg #[.int .i64 k', .int .i64 d', .slice A' m' c'], .slice (some ⟨g, 0, none⟩) n n] w fun e w' => e = .returned (.bool (sameD k k' d d' (mapG a xs) (mapG a ys))) ∧ Below w.heap.size w w' := by
  have hmf : ∀ (fn : Fn) (first cap : Array Value) (w : World), (Instr.makeFunc fn first cap).run Try.prog w = .ok (.func fn first cap) w := fun _ _ _ _ => rfl
  have b3 : ∀ o o' o2 : Obj, Below w.heap.size w (((w.alloc o).alloc o').alloc o2) := fun o o' o2 => (((Below.refl _ _).alloc (Nat.le_refl _) _).alloc (by simp) _).alloc (by simp; omega) _
  have B3 := Lib.hid b3
  have HF := Lib.hid (fun b W h1 h2 h3 h4 h5 h6 => equalF_any B b g n a A A' m c m' c' xs ys hm hm' hl hl' hin hin' hn W h1 h2 h3 h4 h5 h6)
  have hR := Lib.hid hr
  have hR' := Lib.hid hr'
  have hAr := Lib.hid hA
  clear hr hr' hl hl' hin hin' hA b3
  by_cases hk : k = k'
  case neg =>
    have hs := Lib.hid (show sameD k k' d d' (mapG a xs) (mapG a ys) = false from decide_eq_false (fun h => hk h.1))
    have hk2 : (k == k') = false := by rw [beq_eq_false_iff_ne]; exact hk
    clear hk
    go_enter Try.func75, Try.ntmps75
    go_wp2_with fail
    go_ret
    exact ⟨by rw [hs.out]; rfl, B3.out _ _ _⟩
  case pos =>
  subst hk
  by_cases hd : d = d'
  case neg =>
    have hs := Lib.hid (show sameD k k d d' (mapG a xs) (mapG a ys) = false from decide_eq_false (fun h => hd h.2.1))
    have hk2 : (d == d') = false := by rw [beq_eq_false_iff_ne]; exact hd
    clear hd
    go_enter Try.func75, Try.ntmps75
    go_wp2_with fail
    go_ret
    exact ⟨by rw [hs.out]; rfl, B3.out _ _ _⟩
  case pos =>
  subst hd
  have hs := Lib.hid (show sameD k k d d (mapG a xs) (mapG a ys) = decide (mapG a xs = mapG a ys) by unfold sameD; rw [decide_eq_decide]; exact ⟨fun h => h.2.2, fun h => ⟨rfl, rfl, h⟩⟩)
  go_enter Try.func75, Try.ntmps75
  go_wp2_with fail
  refine (HF.out _ _ (hR.out.below ((B3.out _ _ _).mono hB)) (hR'.out.below ((B3.out _ _ _).mono hB)) (by simp; omega) (heap3_2 w _ _ _) (hAr.out.chg (Chg.of_below (C := fun _ => False) (B3.out _ _ _)) (fun h => h)) (by simp; omega)).mono ?_
  rintro e w1 ⟨rfl, b⟩
  have bb := Lib.hid ((B3.out (.cells #[.int .i64 k, .int .i64 d, .slice A m c] 55) (.cells #[.int .i64 k, .int .i64 d, .slice A' m' c'] 55) (.cells #[.slice (some ⟨g, 0, none⟩) n n] 33)).trans (b.mono (by simp; omega)))
  generalize decide (mapG a xs = mapG a ys) = bq at *
  clear b
  go_wp2_with fail
  all_goals
    go_ret
    exact ⟨by rw [hs.out]; simp, bb.out⟩
end Go.Proofs.Ytkjgibhckcdneaa.ErS
