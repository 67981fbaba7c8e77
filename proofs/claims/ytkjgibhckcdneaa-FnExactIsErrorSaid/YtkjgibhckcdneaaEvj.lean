/- impl.valueOf makes the error of Go that stands for an ErrorJoin of valid Errors. -/
import Derived.Test.YtkjgibhckcdneaaEct
namespace Go.Proofs.Ytkjgibhckcdneaa.ErI
set_option linter.unusedVariables false
set_option linter.unusedSimpArgs false
open Go.ChangeShapes Go.WideShapes Go.ChangeAt Go.RowKit
open Mem IntsP ErP ErM ErT ErA ErU ErD ErW ErL ErF ErQ

theorem infoErr : (Try.prog.info? 76).map (fun i => (i.zero, i.size, i.bytes)) = some (some .nilIface, 1, 16) := by kernel_rfl
/-- The value of an ErrorJoin while it is made. -/
structure Jn (w3 : World) (bj i : Nat) (d : Int) (us : List Value) (j : Nat) (v1 v2 : Value) (wr : World) : Prop where
  box : Blk wr bj 97 #[.int .i64 i, .int .i64 d, v1, v2]
  own1 : ∃ ys, wr.ownsRow w3.heap.size 76 1 v1 j ys
  own2 : wr.ownsRow w3.heap.size 76 1 v2 us.length us
  ne : ∀ b, v1.ownBlock = some b → v2.ownBlock ≠ some b
  chg : Chg (fun b => b = bj) w3 wr
theorem Jn.push1 {w3 wr w6 : World} {bj i j : Nat} {d : Int} {us ys' : List Value} {v1 v2 v1' : Value} (h : Jn w3 bj i d us j v1 v2 wr) (hb : bj < w3.heap.size) (hc : Chg (fun b => v1.ownBlock = some b) wr w6)
    (ho : w6.ownsRow w3.heap.size 76 1 v1' (j + 1) ys') (ha : v1'.ownBlock = v1.ownBlock ∨ ∃ g, v1'.ownBlock = some g ∧ wr.heap.size ≤ g) : Jn w3 bj i d us (j + 1) v1' v2 (w6.setCell ⟨bj, 2, none⟩ v1') := by
  obtain ⟨ys, h1⟩ := h.own1
  have sz := h.chg.size
  have n1 : v1.ownBlock ≠ some bj := App.own_blk_ne h1 h.box (by decide)
  have n2 : v2.ownBlock ≠ some bj := App.own_blk_ne h.own2 h.box (by decide)
  have n3 : v1'.ownBlock ≠ some bj := by
    rcases ha with ha | ⟨g, ha, hg⟩
    · rw [ha]; exact n1
    · rw [ha]; intro e; have : g = bj := by simpa using e
      omega
  refine ⟨(h.box.chg hc n1).put 2 v1', ⟨ys', own_far ho ⟨bj, 2, none⟩ _ n3⟩, own_far (own_chg h.own2 hc (fun k hk hk2 => h.ne k hk2 hk)) ⟨bj, 2, none⟩ _ n2, fun b hb1 hb2 => ?_, (h.chg.trans hc (fun x hx hx2 => ?_)).put ⟨bj, 2, none⟩ v1' (.inr rfl)⟩
  · rcases ha with ha | ⟨g, ha, hg⟩
    · exact h.ne b (by rw [← ha]; exact hb1) hb2
    · rw [ha] at hb1
      have e : g = b := by simpa using hb1
      have := (h.own2.lt b hb2).2
      omega
  · have := (h1.lt x hx2).1
    omega
theorem Jn.push2 {w3 wr w6 : World} {bj i j : Nat} {d : Int} {us : List Value} {v1 v2 v2' v : Value} (h : Jn w3 bj i d us j v1 v2 wr) (hb : bj < w3.heap.size) (hc : Chg (fun b => v2.ownBlock = some b) wr w6)
    (ho : w6.ownsRow w3.heap.size 76 1 v2' (us.length + 1) (us ++ [v])) (ha : v2'.ownBlock = v2.ownBlock ∨ ∃ g, v2'.ownBlock = some g ∧ wr.heap.size ≤ g) : Jn w3 bj i d (us ++ [v]) j v1 v2' (w6.setCell ⟨bj, 3, none⟩ v2') := by
  obtain ⟨ys, h1⟩ := h.own1
  have sz := h.chg.size
  have n1 : v1.ownBlock ≠ some bj := App.own_blk_ne h1 h.box (by decide)
  have n2 : v2.ownBlock ≠ some bj := App.own_blk_ne h.own2 h.box (by decide)
  have n3 : v2'.ownBlock ≠ some bj := by
    rcases ha with ha | ⟨g, ha, hg⟩
    · rw [ha]; exact n2
    · rw [ha]; intro e; have : g = bj := by simpa using e
      omega
  refine ⟨(h.box.chg hc n2).put 3 v2', ⟨ys, own_far (own_chg h1 hc (fun k hk hk2 => h.ne k hk hk2)) ⟨bj, 3, none⟩ _ n1⟩, by rw [List.length_append]; exact own_far ho ⟨bj, 3, none⟩ _ n3, fun b hb1 hb2 => ?_, (h.chg.trans hc (fun x hx hx2 => ?_)).put ⟨bj, 3, none⟩ v2' (.inr rfl)⟩
  · rcases ha with ha | ⟨g, ha, hg⟩
    · exact h.ne b hb1 (by rw [← ha]; exact hb2)
    · rw [ha] at hb2
      have e : g = b := by simpa using hb2
      have := (h1.lt b hb1).2
      omega
  · have := (h.own2.lt x hx2).1
    omega
theorem Jn.mono {w3 wr W : World} {bj i j : Nat} {d : Int} {us : List Value} {v1 v2 : Value} (h : Jn w3 bj i d us j v1 v2 wr) (hb : Below wr.heap.size wr W) : Jn w3 bj i d us j v1 v2 W := by
  obtain ⟨ys, h1⟩ := h.own1
  exact ⟨h.box.below hb h.box.lt, ⟨ys, own_below h1 hb (Nat.le_refl _)⟩, own_below h.own2 hb (Nat.le_refl _), h.ne, h.chg.trans (Chg.of_below (C := fun _ => False) hb) (fun _ _ h => h.elim)⟩
set_option maxRecDepth 100000 in
set_option maxHeartbeats 8000000 in
theorem vo_join (u : Nat → Value) (hu : ∀ q, ∃ ty pv, u q = .iface ty pv) (i n gv : Nat) (d : Int) (Ai : Option Addr) (ci m : Nat) (ps : List Int) (hm : ps.length = m) (h12 : m ≤ 12) (hpos : 0 < m) (hci : m ≤ ci) (hn : n ≤ 12) (w : World) (hr : RdI w w.heap.size Ai ps)
    (hg : gv < w.heap.size) (hv : ∀ (j : Nat) (q0 : Int), ps[j]? = some q0 → ∃ q : Nat, q0 = q ∧ q < n ∧ w.cell? ⟨gv, q, none⟩ = some (u q)) :
    Calls Try.prog 77 #[.agg #[.int .i64 3, .int .i64 d, .slice Ai m ci], .int .i64 i, .slice (some ⟨gv, 0, none⟩) n n] w (OneR u i (3, d, ps) w) := by
  have HU := Lib.hid hu
  have HM := Lib.hid hm
  have HR := Lib.hid hr
  have HV := Lib.hid hv
  obtain ⟨i0, hi, hz0, hz1, hz2⟩ := info_parts infoErr
  clear hu hm hr hv
  go_enter Try.func77, Try.ntmps77
  go_wp2_with fail
  obtain ⟨w3, hw3⟩ : ∃ w3, ((w.alloc (.cells #[.int .i64 3, .int .i64 d, .slice Ai m ci] 55)).alloc (.cells #[.int .i64 (i : Int), .int .i64 d] 91)).alloc (.cells #[.int .i64 (i : Int), .int .i64 d, .slice none 0 0, .slice none 0 0] 97) = w3 := ⟨_, rfl⟩
  obtain ⟨bj, hbj⟩ : ∃ bj, w.heap.size + 1 + 1 = bj := ⟨_, rfl⟩
  have xn : Blk w3 w.heap.size 55 #[.int .i64 3, .int .i64 d, .slice Ai m ci] := by rw [← hw3]; exact heap3_0 _ _ _ _
  have xj : Blk w3 bj 97 #[.int .i64 (i : Int), .int .i64 d, .slice none 0 0, .slice none 0 0] := by rw [← hw3, ← hbj]; exact heap3_2 _ _ _ _
  have b3 : Below w.heap.size w w3 := by rw [← hw3]; exact (((Below.refl _ _).alloc (Nat.le_refl _) _).alloc (by simp) _).alloc (by simp; omega) _
  have XN := Lib.hid xn
  have B3 := Lib.hid b3
  have R3 := Lib.hid (HR.out.below b3)
  have V3 := Lib.hid (fun (j : Nat) (q0 : Int) (h : ps[j]? = some q0) => (show ∃ q : Nat, q0 = q ∧ q < n ∧ w3.cell? ⟨gv, q, none⟩ = some (u q) by
    obtain ⟨q, h1, h2, h3⟩ := HV.out j q0 h
    exact ⟨q, h1, h2, (b3.cell (p := ⟨gv, q, none⟩) hg).trans h3⟩))
  have hJ : Jn w3 bj i d ((onceE ps 0).map (fun q => u q.toNat)) 0 (.slice none 0 0) (.slice none 0 0) w3 := ⟨xj, ⟨[], by simp, .inl ⟨rfl, rfl⟩⟩, ⟨by simp [onceE], .inl ⟨rfl, rfl⟩⟩, fun b h => by simp [Value.ownBlock] at h, Chg.refl _ _⟩
  have HJ := Lib.hid hJ
  have lbj : bj < w3.heap.size := xj.lt
  have lwb : w.heap.size < bj := by omega
  rw [hw3, hbj]
  clear hw3 hbj xn xj b3 hJ HR HV
  go_loopw [38] (fun j' wr => ∃ (j : Nat) (A1 : Option Addr) (c1 : Nat) (A2 : Option Addr) (c2 : Nat), j ≤ m ∧ j' = .int .i64 j ∧ Jn w3 bj i d ((onceE ps j).map (fun q => u q.toNat)) j (.slice A1 j c1) (.slice A2 (onceE ps j).length c2) wr) (fun j' _ => m - (intOf j').toNat)
  case atStart => exact ⟨0, none, 0, none, 0, Nat.zero_le _, rfl, HJ.out⟩
  case round =>
    obtain ⟨j, A1, c1, A2, c2, hj, rfl, hG⟩ := hrel
    have G := Lib.hid hG
    have szr := hG.chg.size
    clear hG
    by_cases hjm : j < m
    · obtain ⟨q0, hq0⟩ : ∃ q, ps[j]? = some q := ⟨_, List.getElem?_eq_getElem (by rw [HM.out]; exact hjm)⟩
      obtain ⟨q, rfl, hqn, hcv⟩ := V3.out j q0 hq0
      obtain ⟨ty, pv, huq⟩ := HU.out q
      have HUQ := Lib.hid huq
      rw [huq] at hcv
      have R4 := Lib.hid (rdI_chg R3.out G.out.chg (by omega) (fun b hb => by omega))
      obtain ⟨ad, hAd, hab, d0⟩ := R4.out j _ hq0
      have XN4 := Lib.hid (XN.out.chg G.out.chg (by omega))
      have hcv4 : wr.cell? ⟨gv, q, none⟩ = some (.iface ty pv) := (G.out.chg.cell (p := ⟨gv, q, none⟩) (by show gv < w3.heap.size; omega) (by show ¬ gv = bj; omega)).trans hcv
      have zn : wr.cell? ⟨w.heap.size, 2, none⟩ = some (.slice Ai m ci) := XN4.out.cells 2
      have k2 : wr.cell? ⟨bj, 2, none⟩ = some (.slice A1 j c1) := G.out.box.cells 2
      have HQ0 := Lib.hid hq0
      have HAD := Lib.hid hAd
      have HCV := Lib.hid hcv
      rw [hAd] at zn ⊢
      clear hq0 hcv huq hAd
      go_wp2_with fail
      have S0 : (fun V : World => V.cell? ⟨bj, 2, none⟩ = some (.slice A1 j c1) ∧ V.cell? ⟨gv, q, none⟩ = some (.iface ty pv)) wr.drew := ⟨k2, hcv4⟩
      refine Last2.region_last [13] (fun V : World => V.cell? ⟨bj, 2, none⟩ = some (.slice A1 j c1) ∧ V.cell? ⟨gv, q, none⟩ = some (.iface ty pv)) (by kernel_rfl) ?_
      refine Last2.last_take (i := 0) (d := some 43) (v := .pointer (some ⟨bj, 0, none⟩)) rfl rfl (by kernel_rfl) (by kernel_rfl) (by kernel_rfl) (fun _ _ _ h => h) rfl (by kernel_rfl) (by kernel_rfl) rfl ?_ S0 ?_
      · (intro V hV; (try dsimp only at hV); go_simp; try with_reducible rfl)
      simp only [Act.put, List.setIfInBounds_toArray, List.set_cons_zero, List.set_cons_succ]
      refine Last2.last_take (i := 1) (d := some 44) (v := .pointer (some ⟨bj, 0, none⟩)) rfl rfl (by kernel_rfl) (by kernel_rfl) (by kernel_rfl) (fun _ _ _ h => h) rfl (by kernel_rfl) (by kernel_rfl) rfl ?_ S0 ?_
      · (intro V hV; (try dsimp only at hV); go_simp; try with_reducible rfl)
      simp only [Act.put, List.setIfInBounds_toArray, List.set_cons_zero, List.set_cons_succ]
      refine Last2.last_take (i := 2) (d := some 45) (v := .pointer (some ⟨bj, 0, none⟩)) rfl rfl (by kernel_rfl) (by kernel_rfl) (by kernel_rfl) (fun _ _ _ h => h) rfl (by kernel_rfl) (by kernel_rfl) rfl ?_ S0 ?_
      · (intro V hV; (try dsimp only at hV); go_simp; try with_reducible rfl)
      simp only [Act.put, List.setIfInBounds_toArray, List.set_cons_zero, List.set_cons_succ]
      refine Last2.last_take (i := 3) (d := some 46) (v := .pointer (some ⟨bj, 2, none⟩)) rfl rfl (by kernel_rfl) (by kernel_rfl) (by kernel_rfl) (fun _ _ _ h => h) rfl (by kernel_rfl) (by kernel_rfl) rfl ?_ S0 ?_
      · (intro V hV; (try dsimp only at hV); go_simp; try with_reducible rfl)
      simp only [Act.put, List.setIfInBounds_toArray, List.set_cons_zero, List.set_cons_succ]
      refine Last2.last_take (i := 4) (d := some 47) (v := .slice A1 j c1) rfl rfl (by kernel_rfl) (by kernel_rfl) (by kernel_rfl) (fun _ _ _ h => h) rfl (by kernel_rfl) (by kernel_rfl) rfl ?_ S0 ?_
      · (intro V hV; (try dsimp only at hV); go_simp; try with_reducible rfl)
      simp only [Act.put, List.setIfInBounds_toArray, List.set_cons_zero, List.set_cons_succ]
      refine Last2.last_take (i := 5) (d := some 48) (v := .slice (some ⟨gv, 0, none⟩) n n) rfl rfl (by kernel_rfl) (by kernel_rfl) (by kernel_rfl) (fun _ _ _ h => h) rfl (by kernel_rfl) (by kernel_rfl) rfl ?_ S0 ?_
      · (intro V hV; (try dsimp only at hV); go_simp; try with_reducible rfl)
      simp only [Act.put, List.setIfInBounds_toArray, List.set_cons_zero, List.set_cons_succ]
      refine Last2.last_take (i := 6) (d := some 49) (v := .int .i64 (q : Int)) rfl rfl (by kernel_rfl) (by kernel_rfl) (by kernel_rfl) (fun _ _ _ h => h) rfl (by kernel_rfl) (by kernel_rfl) rfl ?_ S0 ?_
      · (intro V hV; (try dsimp only at hV); go_simp; try with_reducible rfl)
      simp only [Act.put, List.setIfInBounds_toArray, List.set_cons_zero, List.set_cons_succ]
      refine Last2.last_take (i := 7) (d := some 50) (v := .pointer (some ⟨gv, q, none⟩)) rfl rfl (by kernel_rfl) (by kernel_rfl) (by kernel_rfl) (fun _ _ _ h => h) rfl (by kernel_rfl) (by kernel_rfl) rfl ?_ S0 ?_
      · (intro V hV; (try dsimp only at hV); go_simp; try with_reducible rfl)
      simp only [Act.put, List.setIfInBounds_toArray, List.set_cons_zero, List.set_cons_succ]
      refine Last2.last_take (i := 8) (d := some 51) (v := .iface ty pv) rfl rfl (by kernel_rfl) (by kernel_rfl) (by kernel_rfl) (fun _ _ _ h => h) rfl (by kernel_rfl) (by kernel_rfl) rfl ?_ S0 ?_
      · (intro V hV; (try dsimp only at hV); go_simp; try with_reducible rfl)
      simp only [Act.put, List.setIfInBounds_toArray, List.set_cons_zero, List.set_cons_succ]
      have GU := Lib.hid (G.out.mono (show Below wr.heap.size wr wr.drew from (Below.refl _ _).drew))
      clear S0
      generalize wr.drew = U at *
      have GV := Lib.hid (GU.out.mono ((Below.refl U.heap.size U).alloc (Nat.le_refl _) (.cells #[.iface ty pv] 76)))
      refine Last2.last_one (i := 9) (o := { dst := some 52, op := .buildSlice 72 1 #[(0, .tmp 51)], type := _, pos := _, after := _, guard := none }) (by kernel_rfl) rfl rfl (fun K hK => ?_)
      go_simp
      obtain ⟨V, hV⟩ : ∃ V, U.alloc (.cells #[.iface ty pv] 76) = V := ⟨_, rfl⟩
      have PR := Lib.hid (App.one_own (heap1_0 U (.cells #[.iface ty pv] 76)))
      rw [hV] at GV PR ⊢
      have S5 : (fun V : World => V.cell? ⟨bj, 2, none⟩ = some (.slice A1 j c1) ∧ V.cell? ⟨gv, q, none⟩ = some (.iface ty pv)) V := ⟨GV.out.box.cells 2, (GV.out.chg.cell (p := ⟨gv, q, none⟩) (by show gv < w3.heap.size; omega) (by show ¬ gv = bj; omega)).trans HCV.out⟩
      refine hK.out _ _ (fun _ => S5) ?_
      clear hK K hV
      try simp only [Act.put, List.setIfInBounds_toArray, List.set_cons_zero, List.set_cons_succ]
      obtain ⟨ys, h1⟩ := GV.out.own1
      have OR := Lib.hid h1
      have szV := GV.out.chg.size
      clear h1
      refine Last2.last_one (i := 10) (o := { dst := some 53, op := .call { callee := .builtin .append, args := #[.tmp 47, .tmp 52], argTypes := #[72, 72] }, type := _, pos := _, after := _, guard := none }) (by kernel_rfl) rfl rfl (fun K hK => ?_)
      refine App.row_wp _ (.tmp 47) (.tmp 52) 72 rfl w3.heap.size 0 76 i0 _ 1 16 Try.underlying72 hi hz0 hz1 hz2 rfl (by decide) _ _ _ rfl OR.out _ 1 [.iface ty pv] rfl PR.out (by intro v hv; simp at hv; rw [hv]; rfl) (by unfold maxLen; omega) (by omega) szV ?_
      intro v2' w6 o6 g6 t6
      obtain ⟨A6, c6, rfl⟩ := own_slice o6
      have c56 : Chg (fun b => (Value.slice A1 j c1).ownBlock = some b) V w6 := App.Chg.of_grown' (C := fun b => (Value.slice A1 j c1).ownBlock = some b) g6 (fun k hk => hk)
      have n1 : (Value.slice A1 j c1).ownBlock ≠ some bj := App.own_blk_ne OR.out GV.out.box (by decide)
      have bx6 := GV.out.box.chg c56 n1
      have S6 : (fun V : World => V.cell? ⟨bj, 2, none⟩ = some (.slice A1 j c1) ∧ V.cell? ⟨gv, q, none⟩ = some (.iface ty pv)) w6 := ⟨bx6.cells 2, (c56.cell (p := ⟨gv, q, none⟩) (by show gv < V.heap.size; omega) (fun h => by have h5 := (OR.out.lt gv h).1; omega)).trans S5.2⟩
      have zm6 : w6.cell? ⟨bj, 2, none⟩ = some (.slice A1 j c1) := bx6.cells 2
      have fm6 : w6.frozen? ⟨bj, 2, none⟩ = false := bx6.frozen 2
      have G7 := Lib.hid (GV.out.push1 lbj c56 o6 (by
        rcases t6 with t6 | t6
        · exact .inl t6
        · exact .inr ⟨_, t6, Nat.le_refl _⟩))
      refine hK.out _ _ (fun _ => S6) ?_
      clear hK K S5 o6 g6 t6 c56 n1 bx6 OR PR GU GV
      try simp only [Act.put, List.setIfInBounds_toArray, List.set_cons_zero, List.set_cons_succ]
      refine Last2.last_one (i := 11) (o := { dst := some 54, op := .nilCheck (.tmp 43), type := _, pos := _, after := _, guard := none }) (by kernel_rfl) rfl rfl (fun K hK => ?_)
      go_simp
      refine hK.out _ _ (fun _ => S6) ?_
      clear hK K
      try simp only [Act.put, List.setIfInBounds_toArray, List.set_cons_zero, List.set_cons_succ]
      refine Last2.last_one (i := 12) (o := { dst := some 55, op := .fieldAddr 97 (.tmp 54) 1, type := _, pos := _, after := _, guard := none }) (by kernel_rfl) rfl rfl (fun K hK => ?_)
      go_simp
      refine hK.out _ _ (fun _ => S6) ?_
      clear hK K S6
      try simp only [Act.put, List.setIfInBounds_toArray, List.set_cons_zero, List.set_cons_succ]
      refine Last2.last_one (i := 13) (o := { dst := none, op := .store 72 (.tmp 55) (.tmp 53), type := _, pos := _, after := _, guard := none }) (by kernel_rfl) rfl rfl (fun K hK => ?_)
      go_simp
      refine hK.out _ _ (fun h => (h (by decide)).elim) ?_
      clear hK K
      try simp only [Act.put, List.setIfInBounds_toArray, List.set_cons_zero, List.set_cons_succ]
      refine Last2.last_done (by kernel_rfl) ?_ _
      generalize w6.setCell ⟨bj, 2, none⟩ (.slice A6 (j + 1) c6) = w7 at *
      clear zm6 fm6 k2 hcv4 zn d0 R4 XN4 szr G
      have szr := G7.out.chg.size
      have XN7 := Lib.hid (XN.out.chg G7.out.chg (by omega))
      have zn : w7.cell? ⟨w.heap.size, 2, none⟩ = some (.slice Ai m ci) := XN7.out.cells 2
      have R7 := Lib.hid (rdI_chg R3.out G7.out.chg (by omega) (fun b hb => by omega))
      have hct := Lib.hid (containsI_any w.heap.size Ai j ci (ps.take j) (q : Int) (by omega) (by rw [List.length_take, HM.out, Nat.min_eq_left (by omega)]) w7 (fun k y hk => R7.out k y (by rw [List.getElem?_take] at hk; split at hk; exact hk; cases hk)))
      obtain ⟨b, hb⟩ : ∃ b, (ps.take j).contains (q : Int) = b := ⟨_, rfl⟩
      rw [HAD.out] at zn hct
      rw [hb] at hct
      cases b with
      | true =>
        have hN := Lib.hid (once_no HQ0.out hb)
        clear hb
        go_wp2_with fail
        refine hct.out.mono ?_
        rintro e w' ⟨rfl, rfl⟩
        go_wp2_with fail
        go_roundw
        case rel => exact ⟨j + 1, A6, c6, A2, c2, by omega, by go_num, by rw [hN.out]; exact G7.out⟩
        case measure => simp [intOf]; omega
      | false =>
        have hN := Lib.hid (once_yes HQ0.out hb)
        clear hb
        obtain ⟨us, hus⟩ : ∃ us, (onceE ps j).map (fun q => u q.toNat) = us := ⟨_, rfl⟩
        obtain ⟨m2, hm2⟩ : ∃ m2, (onceE ps j).length = m2 := ⟨_, rfl⟩
        have hul := Lib.hid (show us.length = m2 by rw [← hus, List.length_map, hm2])
        have m2j : m2 ≤ j := by rw [← hm2]; exact once_le _ _
        rw [hus, hm2] at G7
        have HUS := Lib.hid hus
        have HM2 := Lib.hid hm2
        clear hus hm2
        go_wp2_with fail
        refine hct.out.mono ?_
        rintro e w' ⟨rfl, rfl⟩
        have k3 : w7.cell? ⟨bj, 3, none⟩ = some (.slice A2 m2 c2) := G7.out.box.cells 3
        have hcv7 : w7.cell? ⟨gv, q, none⟩ = some (.iface ty pv) := (G7.out.chg.cell (p := ⟨gv, q, none⟩) (by show gv < w3.heap.size; omega) (by show ¬ gv = bj; omega)).trans HCV.out
        go_wp2_with fail
        have S0 : (fun V : World => V.cell? ⟨bj, 3, none⟩ = some (.slice A2 m2 c2) ∧ V.cell? ⟨gv, q, none⟩ = some (.iface ty pv)) w7.drew := ⟨k3, hcv7⟩
        refine Last2.region_last [13] (fun V : World => V.cell? ⟨bj, 3, none⟩ = some (.slice A2 m2 c2) ∧ V.cell? ⟨gv, q, none⟩ = some (.iface ty pv)) (by kernel_rfl) ?_
        refine Last2.last_take (i := 0) (d := some 63) (v := .pointer (some ⟨bj, 0, none⟩)) rfl rfl (by kernel_rfl) (by kernel_rfl) (by kernel_rfl) (fun _ _ _ h => h) rfl (by kernel_rfl) (by kernel_rfl) rfl ?_ S0 ?_
        · (intro V hV; (try dsimp only at hV); go_simp; try with_reducible rfl)
        simp only [Act.put, List.setIfInBounds_toArray, List.set_cons_zero, List.set_cons_succ]
        refine Last2.last_take (i := 1) (d := some 64) (v := .pointer (some ⟨bj, 0, none⟩)) rfl rfl (by kernel_rfl) (by kernel_rfl) (by kernel_rfl) (fun _ _ _ h => h) rfl (by kernel_rfl) (by kernel_rfl) rfl ?_ S0 ?_
        · (intro V hV; (try dsimp only at hV); go_simp; try with_reducible rfl)
        simp only [Act.put, List.setIfInBounds_toArray, List.set_cons_zero, List.set_cons_succ]
        refine Last2.last_take (i := 2) (d := some 65) (v := .pointer (some ⟨bj, 0, none⟩)) rfl rfl (by kernel_rfl) (by kernel_rfl) (by kernel_rfl) (fun _ _ _ h => h) rfl (by kernel_rfl) (by kernel_rfl) rfl ?_ S0 ?_
        · (intro V hV; (try dsimp only at hV); go_simp; try with_reducible rfl)
        simp only [Act.put, List.setIfInBounds_toArray, List.set_cons_zero, List.set_cons_succ]
        refine Last2.last_take (i := 3) (d := some 66) (v := .pointer (some ⟨bj, 3, none⟩)) rfl rfl (by kernel_rfl) (by kernel_rfl) (by kernel_rfl) (fun _ _ _ h => h) rfl (by kernel_rfl) (by kernel_rfl) rfl ?_ S0 ?_
        · (intro V hV; (try dsimp only at hV); go_simp; try with_reducible rfl)
        simp only [Act.put, List.setIfInBounds_toArray, List.set_cons_zero, List.set_cons_succ]
        refine Last2.last_take (i := 4) (d := some 67) (v := .slice A2 m2 c2) rfl rfl (by kernel_rfl) (by kernel_rfl) (by kernel_rfl) (fun _ _ _ h => h) rfl (by kernel_rfl) (by kernel_rfl) rfl ?_ S0 ?_
        · (intro V hV; (try dsimp only at hV); go_simp; try with_reducible rfl)
        simp only [Act.put, List.setIfInBounds_toArray, List.set_cons_zero, List.set_cons_succ]
        refine Last2.last_take (i := 5) (d := some 68) (v := .slice (some ⟨gv, 0, none⟩) n n) rfl rfl (by kernel_rfl) (by kernel_rfl) (by kernel_rfl) (fun _ _ _ h => h) rfl (by kernel_rfl) (by kernel_rfl) rfl ?_ S0 ?_
        · (intro V hV; (try dsimp only at hV); go_simp; try with_reducible rfl)
        simp only [Act.put, List.setIfInBounds_toArray, List.set_cons_zero, List.set_cons_succ]
        refine Last2.last_take (i := 6) (d := some 69) (v := .int .i64 (q : Int)) rfl rfl (by kernel_rfl) (by kernel_rfl) (by kernel_rfl) (fun _ _ _ h => h) rfl (by kernel_rfl) (by kernel_rfl) rfl ?_ S0 ?_
        · (intro V hV; (try dsimp only at hV); go_simp; try with_reducible rfl)
        simp only [Act.put, List.setIfInBounds_toArray, List.set_cons_zero, List.set_cons_succ]
        refine Last2.last_take (i := 7) (d := some 70) (v := .pointer (some ⟨gv, q, none⟩)) rfl rfl (by kernel_rfl) (by kernel_rfl) (by kernel_rfl) (fun _ _ _ h => h) rfl (by kernel_rfl) (by kernel_rfl) rfl ?_ S0 ?_
        · (intro V hV; (try dsimp only at hV); go_simp; try with_reducible rfl)
        simp only [Act.put, List.setIfInBounds_toArray, List.set_cons_zero, List.set_cons_succ]
        refine Last2.last_take (i := 8) (d := some 71) (v := .iface ty pv) rfl rfl (by kernel_rfl) (by kernel_rfl) (by kernel_rfl) (fun _ _ _ h => h) rfl (by kernel_rfl) (by kernel_rfl) rfl ?_ S0 ?_
        · (intro V hV; (try dsimp only at hV); go_simp; try with_reducible rfl)
        simp only [Act.put, List.setIfInBounds_toArray, List.set_cons_zero, List.set_cons_succ]
        have GU := Lib.hid (G7.out.mono (show Below w7.heap.size w7 w7.drew from (Below.refl _ _).drew))
        clear S0
        generalize w7.drew = U at *
        have GV := Lib.hid (GU.out.mono ((Below.refl U.heap.size U).alloc (Nat.le_refl _) (.cells #[.iface ty pv] 76)))
        refine Last2.last_one (i := 9) (o := { dst := some 72, op := .buildSlice 72 1 #[(0, .tmp 71)], type := _, pos := _, after := _, guard := none }) (by kernel_rfl) rfl rfl (fun K hK => ?_)
        go_simp
        obtain ⟨V, hV⟩ : ∃ V, U.alloc (.cells #[.iface ty pv] 76) = V := ⟨_, rfl⟩
        have PR := Lib.hid (App.one_own (heap1_0 U (.cells #[.iface ty pv] 76)))
        rw [hV] at GV PR ⊢
        have S5 : (fun V : World => V.cell? ⟨bj, 3, none⟩ = some (.slice A2 m2 c2) ∧ V.cell? ⟨gv, q, none⟩ = some (.iface ty pv)) V := ⟨GV.out.box.cells 3, (GV.out.chg.cell (p := ⟨gv, q, none⟩) (by show gv < w3.heap.size; omega) (by show ¬ gv = bj; omega)).trans HCV.out⟩
        refine hK.out _ _ (fun _ => S5) ?_
        clear hK K hV
        try simp only [Act.put, List.setIfInBounds_toArray, List.set_cons_zero, List.set_cons_succ]
        have h1 : V.ownsRow w3.heap.size 76 1 (.slice A2 m2 c2) m2 us := by have := GV.out.own2; rwa [hul.out] at this
        have OR := Lib.hid h1
        have szV := GV.out.chg.size
        clear h1
        refine Last2.last_one (i := 10) (o := { dst := some 73, op := .call { callee := .builtin .append, args := #[.tmp 67, .tmp 72], argTypes := #[72, 72] }, type := _, pos := _, after := _, guard := none }) (by kernel_rfl) rfl rfl (fun K hK => ?_)
        refine App.row_wp _ (.tmp 67) (.tmp 72) 72 rfl w3.heap.size 0 76 i0 _ 1 16 Try.underlying72 hi hz0 hz1 hz2 rfl (by decide) _ _ _ rfl OR.out _ 1 [.iface ty pv] rfl PR.out (by intro v hv; simp at hv; rw [hv]; rfl) (by unfold maxLen; omega) (by omega) szV ?_
        intro v2' w8 o6 g6 t6
        obtain ⟨A8, c8, rfl⟩ := own_slice o6
        have c56 : Chg (fun b => (Value.slice A2 m2 c2).ownBlock = some b) V w8 := App.Chg.of_grown' (C := fun b => (Value.slice A2 m2 c2).ownBlock = some b) g6 (fun k hk => hk)
        have n1 : (Value.slice A2 m2 c2).ownBlock ≠ some bj := App.own_blk_ne OR.out GV.out.box (by decide)
        have bx6 := GV.out.box.chg c56 n1
        have S6 : (fun V : World => V.cell? ⟨bj, 3, none⟩ = some (.slice A2 m2 c2) ∧ V.cell? ⟨gv, q, none⟩ = some (.iface ty pv)) w8 := ⟨bx6.cells 3, (c56.cell (p := ⟨gv, q, none⟩) (by show gv < V.heap.size; omega) (fun h => by have h5 := (OR.out.lt gv h).1; omega)).trans S5.2⟩
        have zm6 : w8.cell? ⟨bj, 3, none⟩ = some (.slice A2 m2 c2) := bx6.cells 3
        have fm6 : w8.frozen? ⟨bj, 3, none⟩ = false := bx6.frozen 3
        have G9 := Lib.hid (GV.out.push2 lbj c56 (by rw [hul.out]; exact o6) (by
          rcases t6 with t6 | t6
          · exact .inl t6
          · exact .inr ⟨_, t6, Nat.le_refl _⟩))
        refine hK.out _ _ (fun _ => S6) ?_
        clear hK K S5 o6 g6 t6 c56 n1 bx6 OR PR GU GV
        try simp only [Act.put, List.setIfInBounds_toArray, List.set_cons_zero, List.set_cons_succ]
        refine Last2.last_one (i := 11) (o := { dst := some 74, op := .nilCheck (.tmp 63), type := _, pos := _, after := _, guard := none }) (by kernel_rfl) rfl rfl (fun K hK => ?_)
        go_simp
        refine hK.out _ _ (fun _ => S6) ?_
        clear hK K
        try simp only [Act.put, List.setIfInBounds_toArray, List.set_cons_zero, List.set_cons_succ]
        refine Last2.last_one (i := 12) (o := { dst := some 75, op := .fieldAddr 97 (.tmp 74) 2, type := _, pos := _, after := _, guard := none }) (by kernel_rfl) rfl rfl (fun K hK => ?_)
        go_simp
        refine hK.out _ _ (fun _ => S6) ?_
        clear hK K S6
        try simp only [Act.put, List.setIfInBounds_toArray, List.set_cons_zero, List.set_cons_succ]
        refine Last2.last_one (i := 13) (o := { dst := none, op := .store 72 (.tmp 75) (.tmp 73), type := _, pos := _, after := _, guard := none }) (by kernel_rfl) rfl rfl (fun K hK => ?_)
        go_simp
        refine hK.out _ _ (fun h => (h (by decide)).elim) ?_
        clear hK K
        try simp only [Act.put, List.setIfInBounds_toArray, List.set_cons_zero, List.set_cons_succ]
        refine Last2.last_done (by kernel_rfl) ?_ _
        generalize w8.setCell ⟨bj, 3, none⟩ (.slice A8 (m2 + 1) c8) = w9 at *
        clear zm6 fm6 k3 hcv7 zn
        go_wp2_with fail
        go_roundw
        case rel =>
          refine ⟨j + 1, A6, c6, A8, c8, by omega, by go_num, ?_⟩
          rw [hN.out, List.map_append, List.length_append, List.length_singleton, HM2.out, HUS.out, show List.map (fun q : Int => u q.toNat) [(q : Int)] = [.iface ty pv] by rw [← HUQ.out]; simp]
          exact G9.out
        case measure => simp [intOf]; omega
    · obtain rfl : m = j := by omega
      have k3 : wr.cell? ⟨bj, 3, none⟩ = some (.slice A2 (onceE ps m).length c2) := G.out.box.cells 3
      go_wp2_with fail
      go_ret
      refine ⟨bj, rfl, ⟨by omega, ⟨_, _, G.out.box, rfl, rfl⟩, fun h => absurd h (by show ¬ (3 : Int) = 2; decide), fun _ => ?_⟩, B3.out.trans (G.out.chg.below B3.out.size (fun b hb h => by omega))⟩
      have o2 := G.out.own2
      have hul : ((onceE ps m).map (fun q => u q.toNat)).length = (onceE ps m).length := List.length_map _
      have hpm : ps.take m = ps := List.take_of_length_le (by rw [HM.out]; exact Nat.le_refl _)
      have hne : 0 < (onceE ps m).length := by
        obtain ⟨q0, hq0⟩ : ∃ q, ps[0]? = some q := ⟨_, List.getElem?_eq_getElem (by rw [HM.out]; exact hpos)⟩
        exact List.length_pos_of_mem ((once_mem m).2 (by rw [hpm]; exact List.mem_of_getElem? hq0))
      rw [hul] at o2
      show ∃ (A : Addr) (c : Nat), w.heap.size ≤ A.block ∧ A.block < wr.heap.size ∧ wr.cell? ⟨bj, 3, none⟩ = some (.slice (some A) (onceE ps ps.length).length c) ∧ ∀ (j : Nat) (p : Nat), (onceE ps ps.length)[j]? = some (p : Int) → wr.cell? (A.add j) = some (u p)
      rw [HM.out]
      rcases o2.2 with ⟨h1, h2⟩ | ⟨g, c, cur, h1, h2⟩
      · exfalso
        simp only [Value.slice.injEq] at h1
        omega
      · obtain ⟨rfl, _, rfl⟩ : A2 = some ⟨g, 0, none⟩ ∧ True ∧ c2 = c := by simpa using h1
        refine ⟨⟨g, 0, none⟩, c2, (by have h6 := (o2.lt g rfl).1; show w.heap.size ≤ g; omega), (o2.lt g rfl).2, k3, fun j' p' hp' => ?_⟩
        have hj' := (List.getElem?_eq_some_iff.1 hp').1
        rw [show (⟨g, 0, none⟩ : Addr).add j' = ⟨g, j', none⟩ by (simp [Addr.add]; try omega)]
        refine (o2.cellAt j' (by omega)).trans ?_
        rw [List.getElem?_map, hp']
        simp
end Go.Proofs.Ytkjgibhckcdneaa.ErI
