/- The functions and values of events chosen by their kind and their owner. (Written by wip/tools/genpairs.py.) -/
import Derived.Test.YteagmmmniffibaaRowA
import Derived.Test.YteagmmmniffibaaRead3
import Derived.Test.YteagmmmniffibaaM19
import Derived.Test.YteagmmmniffibaaM14
import Derived.Deep.AppendLies
import Derived.BigRegion
import Derived.BigQuiet
namespace Go.Proofs.Yteagmmmniffibaa.PairsP
set_option linter.unusedVariables false
set_option linter.unusedSimpArgs false
open Go.ChangeShapes Go.WideShapes Go.ChangeAt Go.RowKit
open PL Mem Srun Sst IntsP RowC RowA AccP Read3

/-- The functions and values of the events that are chosen, of the first j. -/
def picks (sel : Nat → Tr → Bool) (t : List Tr) : Nat → List Pr
  | 0 => []
  | j + 1 => match t[j]? with
    | some e => if sel j e = true then picks sel t j ++ [e.2] else picks sel t j
    | none => picks sel t j
theorem picks_yes {sel : Nat → Tr → Bool} {t : List Tr} {j : Nat} {e : Tr} (h : t[j]? = some e) (hs : sel j e = true) : picks sel t (j + 1) = picks sel t j ++ [e.2] := by
  rw [picks, h]
  exact if_pos hs
theorem picks_no {sel : Nat → Tr → Bool} {t : List Tr} {j : Nat} {e : Tr} (h : t[j]? = some e) (hs : sel j e = false) : picks sel t (j + 1) = picks sel t j := by
  rw [picks, h]
  exact if_neg (by rw [hs]; decide)
theorem picks_len (sel : Nat → Tr → Bool) (t : List Tr) : ∀ j, (picks sel t j).length ≤ j
  | 0 => Nat.le_refl _
  | j + 1 => by
    have := picks_len sel t j
    rw [picks]
    split
    · split
      · rw [List.length_append, List.length_singleton]; omega
      · omega
    · omega
def selK (k : Int) (T : PL.Told) (own : Int → Bool) (j : Nat) (e : Tr) : Bool := e.1 == k && (match T.owners[j]? with | some o => own o | none => false)
theorem selK_kind {k : Int} {T : PL.Told} {own : Int → Bool} {j : Nat} {e : Tr} (h : e.1 ≠ k) : selK k T own j e = false := by unfold selK; simp [h]
theorem selK_own {k : Int} {T : PL.Told} {own : Int → Bool} {j : Nat} {e : Tr} {o : Int} (h : e.1 = k) (ho : T.owners[j]? = some o) : selK k T own j e = own o := by unfold selK; rw [h, ho]; simp
theorem whole_owners {t : List Tr} (hw : Whole t) : (∀ (i : Nat) (o : Int), (tds t).owners[i]? = some o → 0 ≤ o ∧ o < (tds t).calls.length) ∧ (tds t).owners.length = t.length := by
  have h := hw.inv t.length (Nat.le_refl _)
  have h1 := h.own
  have h2 := h.olen
  rw [List.take_length] at h1 h2
  exact ⟨h1, h2⟩
/-- What has been told, in a box, while a list grows. -/
structure TB (w : World) (lo gb : Nat) (cv ov : Value) (T : PL.Told) (W : World) : Prop where
  blk : Blk W gb 90 #[cv, ov]
  calls : OwnC W lo cv T.calls
  owners : OwnI W lo ov T.owners
  low : Below lo w W
theorem TB.chg {w W W' : World} {lo gb : Nat} {cv ov v : Value} {T : PL.Told} {xs : List Pr} (h : TB w lo gb cv ov T W) (ho : OwnA W lo v xs) (hlo : lo ≤ W.heap.size) (hc : Chg (fun x => v.ownBlock = some x) W W') : TB w lo gb cv ov T W' :=
  ⟨h.blk.chg hc (blk_apart ho h.blk (by decide)), own_chg h.calls hc (fun x hx e => apart h.calls ho (by decide) x hx e), own_chg h.owners hc (fun x hx e => apart h.owners ho (by decide) x hx e),
    h.low.trans (hc.below hlo (fun x hx e => by have := (World.ownsRow.lt ho x e).1; omega))⟩
theorem TB.below {w W W' : World} {lo gb : Nat} {cv ov : Value} {T : PL.Told} (h : TB w lo gb cv ov T W) (hlo : lo ≤ W.heap.size) (hb : Below W.heap.size W W') : TB w lo gb cv ov T W' :=
  ⟨h.blk.below hb h.blk.lt, own_below h.calls hb (Nat.le_refl _), own_below h.owners hb (Nat.le_refl _), h.low.trans (hb.mono hlo)⟩
/-- A list of pairs that is returned. -/
def PairsR (xs : List Pr) (w : World) (e : Ending) (w' : World) : Prop :=
  ∃ A c, e = .returned (.slice A xs.length c) ∧ OwnA w' w.heap.size (.slice A xs.length c) xs ∧ Below w.heap.size w w'

set_option maxRecDepth 100000 in
set_option maxHeartbeats 8000000 in
theorem l3D_any (B N c2 : Nat) (A2 : Option Addr) (t : List Tr) (call : Int) (hw : Whole t) (hN : t.length = N) (hlen : N ≤ 100000) (w : World) (hr : Rd3 w B A2 t) (hB : B ≤ w.heap.size) :
    Calls Try.prog 70 #[.slice A2 N c2, .int .i64 call] w (PairsR (picks (selK 2 (tds t) (fun o => o == call)) t N) w) := by
  obtain ⟨i0, hi, hz0, hz1, hz2⟩ := info_parts infoP2
  have hal : ∀ o1 : Obj, Below w.heap.size w (w.alloc o1) := fun o1 => (Below.refl _ _).alloc (Nat.le_refl _) _
  have HAL := Lib.hid hal
  have HQ := Lib.hid (fun W (h : Below w.heap.size w W) => l3Read_any B N c2 A2 t hw hN hlen W (hr.below (h.mono hB)) (Nat.le_trans hB h.size))
  have HR := Lib.hid (fun V (b : Below w.heap.size w V) => hr.below (b.mono hB))
  have HN := Lib.hid hN
  have HLE := Lib.hid (fun j => picks_len (selK 2 (tds t) (fun o => o == call)) t j)
  have HINV := Lib.hid (whole_owners hw)
  have HYES := Lib.hid (fun (j : Nat) (e : Tr) (h : t[j]? = some e) (hs : (selK 2 (tds t) (fun o => o == call)) j e = true) => picks_yes h hs)
  have HNO := Lib.hid (fun (j : Nat) (e : Tr) (h : t[j]? = some e) (hs : (selK 2 (tds t) (fun o => o == call)) j e = false) => picks_no h hs)
  clear hr hw hN hal
  go_enter Try.func70, Try.ntmps70
  go_wp2_with fail
  refine (HQ.out _ (HAL.out _)).mono ?_
  rintro e W1 ⟨Ac, cc, Ao, co, rfl, oc, oo, b1⟩
  have hsz : w.heap.size ≤ (w.alloc (.cells #[] 105)).heap.size := (HAL.out _).size
  have OC := Lib.hid (own_mono oc hsz)
  have OO := Lib.hid (own_mono oo hsz)
  have OA := Lib.hid (show OwnA W1 w.heap.size (.slice (some ⟨w.heap.size, 0, none⟩) 0 0) [] from own_below (App.empty_own (heap1_0 w _) (Nat.le_refl _)) b1 (Nat.le_refl _))
  have B1 := Lib.hid ((HAL.out (.cells #[] 105)).trans (b1.mono hsz))
  clear oc oo b1 HQ hsz
  go_upto_region 2 with fail
  change (fun V => Code.wp _ _ _ _ V) _
  refine gen_world (X := fun V => TB w w.heap.size W1.heap.size (.slice Ac (tds t).calls.length cc) (.slice Ao (tds t).owners.length co) (tds t) V ∧ OwnA V w.heap.size (.slice (some ⟨w.heap.size, 0, none⟩) 0 0) []) ⟨⟨heap1_0 W1 _, own_below OC.out ((Below.refl _ _).alloc (Nat.le_refl _) _) (Nat.le_refl _), own_below OO.out ((Below.refl _ _).alloc (Nat.le_refl _) _) (Nat.le_refl _), B1.out.alloc B1.out.size _⟩, own_below OA.out ((Below.refl _ _).alloc (Nat.le_refl _) _) (Nat.le_refl _)⟩ ?_
  generalize W1.heap.size = gb
  rintro W2 ⟨h2, oa⟩
  have H2 := Lib.hid h2
  have OA2 := Lib.hid oa
  clear h2 oa OC OO OA B1
  go_wp2_with fail
  go_loopw [5, 7] (fun v i wr => ∃ (j : Nat) (A' : Option Addr) (c' : Nat), j ≤ N ∧ i = .int .i64 j ∧ v = .slice A' (picks (selK 2 (tds t) (fun o => o == call)) t j).length c' ∧ OwnA wr w.heap.size (.slice A' (picks (selK 2 (tds t) (fun o => o == call)) t j).length c') (picks (selK 2 (tds t) (fun o => o == call)) t j) ∧ TB w w.heap.size gb (.slice Ac (tds t).calls.length cc) (.slice Ao (tds t).owners.length co) (tds t) wr) (fun _ i _ => N - (intOf i).toNat)
  case atStart => exact ⟨0, _, _, Nat.zero_le _, rfl, rfl, OA2.out, H2.out⟩
  case round =>
    obtain ⟨j, A', c', hj, rfl, rfl, hown, hb⟩ := hrel
    clear H2 OA2
    have hlo : w.heap.size ≤ wr.heap.size := hb.low.size
    by_cases hlt : j < N
    · obtain ⟨⟨e0, e1, e2⟩, hs⟩ : ∃ s, t[j]? = some s := ⟨_, List.getElem?_eq_getElem (by rw [HN.out]; exact hlt)⟩
      obtain ⟨ad, rfl, hab, h0', h1', h2'⟩ := (HR.out wr hb.low) j _ hs
      obtain ⟨o, hos⟩ : ∃ o, (tds t).owners[j]? = some o := ⟨_, List.getElem?_eq_getElem (by rw [HINV.out.2, HN.out]; exact hlt)⟩
      obtain ⟨ao, rfl, hao, ho0⟩ := (hb.owners.rd rfl) j _ hos
      have hjo : j < (tds t).owners.length := (List.getElem?_eq_some_iff.1 hos).1
      have z0 : wr.cell? ⟨gb, 0, none⟩ = some (.slice Ac (tds t).calls.length cc) := hb.blk.cells 0
      have z1 : wr.cell? ⟨gb, 1, none⟩ = some (.slice (some ao) (tds t).owners.length co) := hb.blk.cells 1
      have hl := HLE.out j
      have HB := Lib.hid hb
      have O := Lib.hid hown
      have HS := Lib.hid hs
      have HOS := Lib.hid hos
      dsimp only at h0' h1' h2'
      clear hs hb hown hos
      by_cases k0 : e0 = 2
      · subst k0
        have HSEL := Lib.hid (show (selK 2 (tds t) (fun o => o == call)) j (2, e1, e2) = (o == call) from selK_own rfl HOS.out)
        by_cases hc : o = call
        · have hcb : (o == call) = true := by simpa using hc
          have HX := Lib.hid (HYES.out j _ HS.out (HSEL.out.trans hcb))
          clear hc
          generalize picks (selK 2 (tds t) (fun o => o == call)) t j = q at *
          go_wp2_with fail
          have S0 : (fun V : World => V.cell? ⟨(ad.add (j * 3)).block, (ad.add (j * 3)).off + 1, none⟩ = some (.int .i64 e1) ∧ V.cell? ⟨(ad.add (j * 3)).block, (ad.add (j * 3)).off + 2, none⟩ = some (.int .i64 e2)) wr.drew := ⟨h1', h2'⟩
          refine Last2.region_last [14] (fun V : World => V.cell? ⟨(ad.add (j * 3)).block, (ad.add (j * 3)).off + 1, none⟩ = some (.int .i64 e1) ∧ V.cell? ⟨(ad.add (j * 3)).block, (ad.add (j * 3)).off + 2, none⟩ = some (.int .i64 e2)) (by kernel_rfl) ?_
          refine Last2.last_take (i := 0) (d := some 32) (v := .slice A' q.length c') rfl rfl (by kernel_rfl) (by kernel_rfl) (by kernel_rfl) (fun _ _ _ h => h) rfl (by kernel_rfl) (by kernel_rfl) rfl ?_ S0 ?_
          · (intro V hV; (try dsimp only at hV); go_simp; try with_reducible rfl)
          simp only [Act.put, List.setIfInBounds_toArray, List.set_cons_zero, List.set_cons_succ]
          refine Last2.last_take (i := 1) (d := some 33) (v := .slice (some ad) N c2) rfl rfl (by kernel_rfl) (by kernel_rfl) (by kernel_rfl) (fun _ _ _ h => h) rfl (by kernel_rfl) (by kernel_rfl) rfl ?_ S0 ?_
          · (intro V hV; (try dsimp only at hV); go_simp; try with_reducible rfl)
          simp only [Act.put, List.setIfInBounds_toArray, List.set_cons_zero, List.set_cons_succ]
          refine Last2.last_take (i := 2) (d := some 34) (v := .int .i64 (j : Int)) rfl rfl (by kernel_rfl) (by kernel_rfl) (by kernel_rfl) (fun _ _ _ h => h) rfl (by kernel_rfl) (by kernel_rfl) rfl ?_ S0 ?_
          · (intro V hV; (try dsimp only at hV); go_simp; try with_reducible rfl)
          simp only [Act.put, List.setIfInBounds_toArray, List.set_cons_zero, List.set_cons_succ]
          refine Last2.last_take (i := 3) (d := some 35) (v := .pointer (some (ad.add (j * 3)))) rfl rfl (by kernel_rfl) (by kernel_rfl) (by kernel_rfl) (fun _ _ _ h => h) rfl (by kernel_rfl) (by kernel_rfl) rfl ?_ S0 ?_
          · (intro V hV; (try dsimp only at hV); go_simp; try with_reducible rfl)
          simp only [Act.put, List.setIfInBounds_toArray, List.set_cons_zero, List.set_cons_succ]
          refine Last2.last_take (i := 4) (d := some 36) (v := .pointer (some ⟨(ad.add (j * 3)).block, (ad.add (j * 3)).off + 1, none⟩)) rfl rfl (by kernel_rfl) (by kernel_rfl) (by kernel_rfl) (fun _ _ _ h => h) rfl (by kernel_rfl) (by kernel_rfl) rfl ?_ S0 ?_
          · (intro V hV; (try dsimp only at hV); go_simp; try with_reducible rfl)
          simp only [Act.put, List.setIfInBounds_toArray, List.set_cons_zero, List.set_cons_succ]
          refine Last2.last_take (i := 5) (d := some 37) (v := .int .i64 e1) rfl rfl (by kernel_rfl) (by kernel_rfl) (by kernel_rfl) (fun _ _ _ h => h) rfl (by kernel_rfl) (by kernel_rfl) rfl ?_ S0 ?_
          · (intro V hV; (try dsimp only at hV); go_simp; try with_reducible rfl)
          simp only [Act.put, List.setIfInBounds_toArray, List.set_cons_zero, List.set_cons_succ]
          refine Last2.last_take (i := 6) (d := some 38) (v := .slice (some ad) N c2) rfl rfl (by kernel_rfl) (by kernel_rfl) (by kernel_rfl) (fun _ _ _ h => h) rfl (by kernel_rfl) (by kernel_rfl) rfl ?_ S0 ?_
          · (intro V hV; (try dsimp only at hV); go_simp; try with_reducible rfl)
          simp only [Act.put, List.setIfInBounds_toArray, List.set_cons_zero, List.set_cons_succ]
          refine Last2.last_take (i := 7) (d := some 39) (v := .int .i64 (j : Int)) rfl rfl (by kernel_rfl) (by kernel_rfl) (by kernel_rfl) (fun _ _ _ h => h) rfl (by kernel_rfl) (by kernel_rfl) rfl ?_ S0 ?_
          · (intro V hV; (try dsimp only at hV); go_simp; try with_reducible rfl)
          simp only [Act.put, List.setIfInBounds_toArray, List.set_cons_zero, List.set_cons_succ]
          refine Last2.last_take (i := 8) (d := some 40) (v := .pointer (some (ad.add (j * 3)))) rfl rfl (by kernel_rfl) (by kernel_rfl) (by kernel_rfl) (fun _ _ _ h => h) rfl (by kernel_rfl) (by kernel_rfl) rfl ?_ S0 ?_
          · (intro V hV; (try dsimp only at hV); go_simp; try with_reducible rfl)
          simp only [Act.put, List.setIfInBounds_toArray, List.set_cons_zero, List.set_cons_succ]
          refine Last2.last_take (i := 9) (d := some 41) (v := .pointer (some ⟨(ad.add (j * 3)).block, (ad.add (j * 3)).off + 2, none⟩)) rfl rfl (by kernel_rfl) (by kernel_rfl) (by kernel_rfl) (fun _ _ _ h => h) rfl (by kernel_rfl) (by kernel_rfl) rfl ?_ S0 ?_
          · (intro V hV; (try dsimp only at hV); go_simp; try with_reducible rfl)
          simp only [Act.put, List.setIfInBounds_toArray, List.set_cons_zero, List.set_cons_succ]
          refine Last2.last_take (i := 10) (d := some 42) (v := .int .i64 e2) rfl rfl (by kernel_rfl) (by kernel_rfl) (by kernel_rfl) (fun _ _ _ h => h) rfl (by kernel_rfl) (by kernel_rfl) rfl ?_ S0 ?_
          · (intro V hV; (try dsimp only at hV); go_simp; try with_reducible rfl)
          simp only [Act.put, List.setIfInBounds_toArray, List.set_cons_zero, List.set_cons_succ]
          refine Last2.last_take (i := 11) (d := some 43) (v := .agg #[.int .i64 e1, .int .i64 e2]) rfl rfl (by kernel_rfl) (by kernel_rfl) (by kernel_rfl) (fun _ _ _ h => h) rfl (by kernel_rfl) (by kernel_rfl) rfl ?_ S0 ?_
          · (intro V hV; (try dsimp only at hV); go_simp; try with_reducible rfl)
          simp only [Act.put, List.setIfInBounds_toArray, List.set_cons_zero, List.set_cons_succ]
          refine Last2.last_one (i := 12) (o := { dst := some 44, op := .buildSlice 54 1 #[(0, .tmp 43)], type := _, pos := _, after := _, guard := none }) (by kernel_rfl) rfl rfl (fun K hK => ?_)
          go_simp
          have hne : (ad.add (j * 3)).block < w.heap.size := by rw [block_of_add]; exact Nat.lt_of_lt_of_le hab hB
          have bal : Below wr.heap.size wr (wr.alloc (.cells #[.int .i64 e1, .int .i64 e2] 105)) := (Below.refl _ _).alloc (Nat.le_refl _) _
          have S1 : (fun V : World => V.cell? ⟨(ad.add (j * 3)).block, (ad.add (j * 3)).off + 1, none⟩ = some (.int .i64 e1) ∧ V.cell? ⟨(ad.add (j * 3)).block, (ad.add (j * 3)).off + 2, none⟩ = some (.int .i64 e2)) (wr.alloc (.cells #[.int .i64 e1, .int .i64 e2] 105)).drew := ⟨(bal.cell (show (⟨(ad.add (j * 3)).block, (ad.add (j * 3)).off + 1, none⟩ : Addr).block < _ from Nat.lt_of_lt_of_le hne hlo)).trans h1', (bal.cell (show (⟨(ad.add (j * 3)).block, (ad.add (j * 3)).off + 2, none⟩ : Addr).block < _ from Nat.lt_of_lt_of_le hne hlo)).trans h2'⟩
          refine hK.out _ _ (fun _ => S1) ?_
          clear hK K S0
          try simp only [Act.put, List.setIfInBounds_toArray, List.set_cons_zero, List.set_cons_succ]
          have o0 := World.ownsRow.alloc O.out (.cells #[.int .i64 e1, .int .i64 e2] 105)
          have p0 := App.pair_own (heap1_0 wr (.cells #[.int .i64 e1, .int .i64 e2] 105))
          refine Last2.last_one (i := 13) (o := { dst := some 45, op := .call { callee := .builtin .append, args := #[.tmp 32, .tmp 44], argTypes := #[54, 54] }, type := _, pos := _, after := _, guard := none }) (by kernel_rfl) rfl rfl (fun K hK => ?_)
          refine App.row_wp _ (.tmp 32) (.tmp 44) 54 rfl w.heap.size 0 105 i0 _ 2 16 Try.underlying54 hi hz0 hz1 hz2 rfl (by decide) _ _ _ rfl o0 _ 1 [.int .i64 e1, .int .i64 e2] rfl p0 (by intro u hu; simp at hu; rcases hu with rfl | rfl <;> rfl) (by unfold maxLen; omega) (by omega) (by show w.heap.size ≤ (wr.alloc _).heap.size; rw [World.size_alloc]; omega) ?_
          intro v1 w1 o1 g1 t1
          have ch : Chg (fun x => (Value.slice A' q.length c').ownBlock = some x) wr w1 := Chg.trans (b := (wr.alloc (.cells #[.int .i64 e1, .int .i64 e2] 105)).drew) (Chg.trans (Chg.alloc _ wr _) (Chg.drew (fun _ => False) _) (fun _ _ h => h.elim)) (Chg.of_grown g1) (fun x _ hx => hx.symm)
          have bl : Below w.heap.size wr w1 := ch.below hlo (fun x hx e => by have := (World.ownsRow.lt O.out x e).1; omega)
          have S2 : (fun V : World => V.cell? ⟨(ad.add (j * 3)).block, (ad.add (j * 3)).off + 1, none⟩ = some (.int .i64 e1) ∧ V.cell? ⟨(ad.add (j * 3)).block, (ad.add (j * 3)).off + 2, none⟩ = some (.int .i64 e2)) w1 := ⟨(bl.cell (show (⟨(ad.add (j * 3)).block, (ad.add (j * 3)).off + 1, none⟩ : Addr).block < _ from hne)).trans h1', (bl.cell (show (⟨(ad.add (j * 3)).block, (ad.add (j * 3)).off + 2, none⟩ : Addr).block < _ from hne)).trans h2'⟩
          refine hK.out _ _ (fun _ => S2) ?_
          clear hK K o0 p0 S1
          obtain ⟨A1, c1, rfl⟩ := own_slice o1
          have O1 := Lib.hid o1
          have T1 := Lib.hid (HB.out.chg O.out hlo ch)
          clear o1 g1 t1 ch bl S2 HB O bal
          try simp only [Act.put, List.setIfInBounds_toArray, List.set_cons_zero, List.set_cons_succ]
          refine Last2.last_one (i := 14) (o := { dst := some 5, op := .assign (.tmp 45), type := _, pos := _, after := _, guard := none }) (by kernel_rfl) rfl rfl (fun K hK => ?_)
          go_simp
          refine hK.out _ _ (fun h => (h (by decide)).elim) ?_
          clear hK K
          try simp only [Act.put, List.setIfInBounds_toArray, List.set_cons_zero, List.set_cons_succ]
          refine Last2.last_done (by kernel_rfl) ?_ _
          go_wp2_with fail
          go_roundw
          case rel =>
            refine ⟨j + 1, A1, c1, by omega, by go_num, ?_, ?_, T1.out⟩
            · rw [HX.out, List.length_append, List.length_singleton]
            · rw [HX.out]
              unfold OwnA
              rw [List.length_append, List.length_singleton, cells2_append]
              exact O1.out
          case measure => simp [intOf]; omega
        · have hcb : (o == call) = false := by simpa using hc
          have HX := Lib.hid (HNO.out j _ HS.out (HSEL.out.trans hcb))
          clear hc
          generalize picks (selK 2 (tds t) (fun o => o == call)) t j = q at *
          go_wp2_with fail
          go_roundw
          case rel => exact ⟨j + 1, A', c', by omega, by go_num, by rw [HX.out], by rw [HX.out]; exact O.out, HB.out⟩
          case measure => simp [intOf]; omega
      · have hcb : (e0 == 2) = false := by simpa using k0
        have HX := Lib.hid (HNO.out j _ HS.out (selK_kind k0))
        clear k0
        generalize picks (selK 2 (tds t) (fun o => o == call)) t j = q at *
        go_wp2_with fail
        go_roundw
        case rel => exact ⟨j + 1, A', c', by omega, by go_num, by rw [HX.out], by rw [HX.out]; exact O.out, HB.out⟩
        case measure => simp [intOf]; omega
    · obtain rfl : j = N := by omega
      have HB := Lib.hid hb
      have O := Lib.hid hown
      clear hb hown
      go_wp2_with fail
      go_ret
      exact ⟨A', c', rfl, O.out, HB.out.low⟩

set_option maxRecDepth 100000 in
set_option maxHeartbeats 8000000 in
theorem l3R_any (B N c2 : Nat) (A2 : Option Addr) (t : List Tr) (call : Int) (hw : Whole t) (hN : t.length = N) (hlen : N ≤ 100000) (w : World) (hr : Rd3 w B A2 t) (hB : B ≤ w.heap.size) :
    Calls Try.prog 75 #[.slice A2 N c2, .int .i64 call] w (PairsR (picks (selK 3 (tds t) (fun o => parAt (tds t).calls o == call)) t N) w) := by
  obtain ⟨i0, hi, hz0, hz1, hz2⟩ := info_parts infoP2
  have hal : ∀ o1 : Obj, Below w.heap.size w (w.alloc o1) := fun o1 => (Below.refl _ _).alloc (Nat.le_refl _) _
  have HAL := Lib.hid hal
  have HQ := Lib.hid (fun W (h : Below w.heap.size w W) => l3Read_any B N c2 A2 t hw hN hlen W (hr.below (h.mono hB)) (Nat.le_trans hB h.size))
  have HR := Lib.hid (fun V (b : Below w.heap.size w V) => hr.below (b.mono hB))
  have HN := Lib.hid hN
  have HLE := Lib.hid (fun j => picks_len (selK 3 (tds t) (fun o => parAt (tds t).calls o == call)) t j)
  have HINV := Lib.hid (whole_owners hw)
  have HYES := Lib.hid (fun (j : Nat) (e : Tr) (h : t[j]? = some e) (hs : (selK 3 (tds t) (fun o => parAt (tds t).calls o == call)) j e = true) => picks_yes h hs)
  have HNO := Lib.hid (fun (j : Nat) (e : Tr) (h : t[j]? = some e) (hs : (selK 3 (tds t) (fun o => parAt (tds t).calls o == call)) j e = false) => picks_no h hs)
  clear hr hw hN hal
  go_enter Try.func75, Try.ntmps75
  go_wp2_with fail
  refine (HQ.out _ (HAL.out _)).mono ?_
  rintro e W1 ⟨Ac, cc, Ao, co, rfl, oc, oo, b1⟩
  have hsz : w.heap.size ≤ (w.alloc (.cells #[] 105)).heap.size := (HAL.out _).size
  have OC := Lib.hid (own_mono oc hsz)
  have OO := Lib.hid (own_mono oo hsz)
  have OA := Lib.hid (show OwnA W1 w.heap.size (.slice (some ⟨w.heap.size, 0, none⟩) 0 0) [] from own_below (App.empty_own (heap1_0 w _) (Nat.le_refl _)) b1 (Nat.le_refl _))
  have B1 := Lib.hid ((HAL.out (.cells #[] 105)).trans (b1.mono hsz))
  clear oc oo b1 HQ hsz
  go_upto_region 2 with fail
  change (fun V => Code.wp _ _ _ _ V) _
  refine gen_world (X := fun V => TB w w.heap.size W1.heap.size (.slice Ac (tds t).calls.length cc) (.slice Ao (tds t).owners.length co) (tds t) V ∧ OwnA V w.heap.size (.slice (some ⟨w.heap.size, 0, none⟩) 0 0) []) ⟨⟨heap1_0 W1 _, own_below OC.out ((Below.refl _ _).alloc (Nat.le_refl _) _) (Nat.le_refl _), own_below OO.out ((Below.refl _ _).alloc (Nat.le_refl _) _) (Nat.le_refl _), B1.out.alloc B1.out.size _⟩, own_below OA.out ((Below.refl _ _).alloc (Nat.le_refl _) _) (Nat.le_refl _)⟩ ?_
  generalize W1.heap.size = gb
  rintro W2 ⟨h2, oa⟩
  have H2 := Lib.hid h2
  have OA2 := Lib.hid oa
  clear h2 oa OC OO OA B1
  go_wp2_with fail
  go_loopw [5, 7] (fun v i wr => ∃ (j : Nat) (A' : Option Addr) (c' : Nat), j ≤ N ∧ i = .int .i64 j ∧ v = .slice A' (picks (selK 3 (tds t) (fun o => parAt (tds t).calls o == call)) t j).length c' ∧ OwnA wr w.heap.size (.slice A' (picks (selK 3 (tds t) (fun o => parAt (tds t).calls o == call)) t j).length c') (picks (selK 3 (tds t) (fun o => parAt (tds t).calls o == call)) t j) ∧ TB w w.heap.size gb (.slice Ac (tds t).calls.length cc) (.slice Ao (tds t).owners.length co) (tds t) wr) (fun _ i _ => N - (intOf i).toNat)
  case atStart => exact ⟨0, _, _, Nat.zero_le _, rfl, rfl, OA2.out, H2.out⟩
  case round =>
    obtain ⟨j, A', c', hj, rfl, rfl, hown, hb⟩ := hrel
    clear H2 OA2
    have hlo : w.heap.size ≤ wr.heap.size := hb.low.size
    by_cases hlt : j < N
    · obtain ⟨⟨e0, e1, e2⟩, hs⟩ : ∃ s, t[j]? = some s := ⟨_, List.getElem?_eq_getElem (by rw [HN.out]; exact hlt)⟩
      obtain ⟨ad, rfl, hab, h0', h1', h2'⟩ := (HR.out wr hb.low) j _ hs
      obtain ⟨o, hos⟩ : ∃ o, (tds t).owners[j]? = some o := ⟨_, List.getElem?_eq_getElem (by rw [HINV.out.2, HN.out]; exact hlt)⟩
      obtain ⟨ao, rfl, hao, ho0⟩ := (hb.owners.rd rfl) j _ hos
      have hjo : j < (tds t).owners.length := (List.getElem?_eq_some_iff.1 hos).1
      have z0 : wr.cell? ⟨gb, 0, none⟩ = some (.slice Ac (tds t).calls.length cc) := hb.blk.cells 0
      have z1 : wr.cell? ⟨gb, 1, none⟩ = some (.slice (some ao) (tds t).owners.length co) := hb.blk.cells 1
      have hl := HLE.out j
      have HB := Lib.hid hb
      have O := Lib.hid hown
      have HS := Lib.hid hs
      have HOS := Lib.hid hos
      dsimp only at h0' h1' h2'
      clear hs hb hown hos
      by_cases k0 : e0 = 3
      · subst k0
        obtain ⟨ho1, ho2⟩ := HINV.out.1 j o HOS.out
        obtain ⟨no, rfl⟩ : ∃ no : Nat, o = no := ⟨o.toNat, by omega⟩
        obtain ⟨x, hx⟩ : ∃ x, (tds t).calls[no]? = some x := ⟨_, List.getElem?_eq_getElem (by omega)⟩
        obtain ⟨ac, rfl, hac, q0, q1, q2, q3, q4⟩ := (HB.out.calls.rd rfl) no _ hx
        have hno : no < (tds t).calls.length := (List.getElem?_eq_some_iff.1 hx).1
        have HSEL := Lib.hid (show (selK 3 (tds t) (fun o => parAt (tds t).calls o == call)) j (3, e1, e2) = (x.par == call) from (selK_own rfl HOS.out).trans (by unfold parAt; rw [Int.toNat_natCast, hx]))
        clear q0 q2 q3 q4 ho1 ho2 hx
        by_cases hc : x.par = call
        · have hcb : (x.par == call) = true := by simpa using hc
          have HX := Lib.hid (HYES.out j _ HS.out (HSEL.out.trans hcb))
          clear hc
          generalize picks (selK 3 (tds t) (fun o => parAt (tds t).calls o == call)) t j = q at *
          go_wp2_with fail
          go_region
          all_goals
            go_wp2_with fail
            have O1 := Lib.hid (own_below (B' := wr.heap.size) O.out ((Below.refl _ _).drew) (Nat.le_refl _))
            have HB1 := Lib.hid (HB.out.below hlo ((Below.refl _ _).drew))
            change (fun V => Code.wp _ _ _ _ V) _
            refine gen_world (X := fun V => OwnA V w.heap.size (.slice A' q.length c') q ∧ TB w w.heap.size gb (.slice (some ac) (tds t).calls.length cc) (.slice (some ao) (tds t).owners.length co) (tds t) V ∧ w.heap.size ≤ V.heap.size ∧ V.cell? ⟨(ad.add (j * 3)).block, (ad.add (j * 3)).off + 1, none⟩ = some (.int .i64 e1) ∧ V.cell? ⟨(ad.add (j * 3)).block, (ad.add (j * 3)).off + 2, none⟩ = some (.int .i64 e2)) ⟨O1.out, HB1.out, hlo, h1', h2'⟩ ?_
            clear O1 HB1 O HB h0' h1' h2' z0 z1 ho0 q1
            rintro V ⟨oV, tV, hlV, h1', h2'⟩
            have O := Lib.hid oV
            have HB := Lib.hid tV
            clear oV tV
            have S0 : (fun V : World => V.cell? ⟨(ad.add (j * 3)).block, (ad.add (j * 3)).off + 1, none⟩ = some (.int .i64 e1) ∧ V.cell? ⟨(ad.add (j * 3)).block, (ad.add (j * 3)).off + 2, none⟩ = some (.int .i64 e2)) V.drew := ⟨h1', h2'⟩
            refine Last2.region_last [14] (fun V : World => V.cell? ⟨(ad.add (j * 3)).block, (ad.add (j * 3)).off + 1, none⟩ = some (.int .i64 e1) ∧ V.cell? ⟨(ad.add (j * 3)).block, (ad.add (j * 3)).off + 2, none⟩ = some (.int .i64 e2)) (by kernel_rfl) ?_
            refine Last2.last_take (i := 0) (d := some 37) (v := .slice A' q.length c') rfl rfl (by kernel_rfl) (by kernel_rfl) (by kernel_rfl) (fun _ _ _ h => h) rfl (by kernel_rfl) (by kernel_rfl) rfl ?_ S0 ?_
            · (intro V hV; (try dsimp only at hV); go_simp; try with_reducible rfl)
            simp only [Act.put, List.setIfInBounds_toArray, List.set_cons_zero, List.set_cons_succ]
            refine Last2.last_take (i := 1) (d := some 38) (v := .slice (some ad) N c2) rfl rfl (by kernel_rfl) (by kernel_rfl) (by kernel_rfl) (fun _ _ _ h => h) rfl (by kernel_rfl) (by kernel_rfl) rfl ?_ S0 ?_
            · (intro V hV; (try dsimp only at hV); go_simp; try with_reducible rfl)
            simp only [Act.put, List.setIfInBounds_toArray, List.set_cons_zero, List.set_cons_succ]
            refine Last2.last_take (i := 2) (d := some 39) (v := .int .i64 (j : Int)) rfl rfl (by kernel_rfl) (by kernel_rfl) (by kernel_rfl) (fun _ _ _ h => h) rfl (by kernel_rfl) (by kernel_rfl) rfl ?_ S0 ?_
            · (intro V hV; (try dsimp only at hV); go_simp; try with_reducible rfl)
            simp only [Act.put, List.setIfInBounds_toArray, List.set_cons_zero, List.set_cons_succ]
            refine Last2.last_take (i := 3) (d := some 40) (v := .pointer (some (ad.add (j * 3)))) rfl rfl (by kernel_rfl) (by kernel_rfl) (by kernel_rfl) (fun _ _ _ h => h) rfl (by kernel_rfl) (by kernel_rfl) rfl ?_ S0 ?_
            · (intro V hV; (try dsimp only at hV); go_simp; try with_reducible rfl)
            simp only [Act.put, List.setIfInBounds_toArray, List.set_cons_zero, List.set_cons_succ]
            refine Last2.last_take (i := 4) (d := some 41) (v := .pointer (some ⟨(ad.add (j * 3)).block, (ad.add (j * 3)).off + 1, none⟩)) rfl rfl (by kernel_rfl) (by kernel_rfl) (by kernel_rfl) (fun _ _ _ h => h) rfl (by kernel_rfl) (by kernel_rfl) rfl ?_ S0 ?_
            · (intro V hV; (try dsimp only at hV); go_simp; try with_reducible rfl)
            simp only [Act.put, List.setIfInBounds_toArray, List.set_cons_zero, List.set_cons_succ]
            refine Last2.last_take (i := 5) (d := some 42) (v := .int .i64 e1) rfl rfl (by kernel_rfl) (by kernel_rfl) (by kernel_rfl) (fun _ _ _ h => h) rfl (by kernel_rfl) (by kernel_rfl) rfl ?_ S0 ?_
            · (intro V hV; (try dsimp only at hV); go_simp; try with_reducible rfl)
            simp only [Act.put, List.setIfInBounds_toArray, List.set_cons_zero, List.set_cons_succ]
            refine Last2.last_take (i := 6) (d := some 43) (v := .slice (some ad) N c2) rfl rfl (by kernel_rfl) (by kernel_rfl) (by kernel_rfl) (fun _ _ _ h => h) rfl (by kernel_rfl) (by kernel_rfl) rfl ?_ S0 ?_
            · (intro V hV; (try dsimp only at hV); go_simp; try with_reducible rfl)
            simp only [Act.put, List.setIfInBounds_toArray, List.set_cons_zero, List.set_cons_succ]
            refine Last2.last_take (i := 7) (d := some 44) (v := .int .i64 (j : Int)) rfl rfl (by kernel_rfl) (by kernel_rfl) (by kernel_rfl) (fun _ _ _ h => h) rfl (by kernel_rfl) (by kernel_rfl) rfl ?_ S0 ?_
            · (intro V hV; (try dsimp only at hV); go_simp; try with_reducible rfl)
            simp only [Act.put, List.setIfInBounds_toArray, List.set_cons_zero, List.set_cons_succ]
            refine Last2.last_take (i := 8) (d := some 45) (v := .pointer (some (ad.add (j * 3)))) rfl rfl (by kernel_rfl) (by kernel_rfl) (by kernel_rfl) (fun _ _ _ h => h) rfl (by kernel_rfl) (by kernel_rfl) rfl ?_ S0 ?_
            · (intro V hV; (try dsimp only at hV); go_simp; try with_reducible rfl)
            simp only [Act.put, List.setIfInBounds_toArray, List.set_cons_zero, List.set_cons_succ]
            refine Last2.last_take (i := 9) (d := some 46) (v := .pointer (some ⟨(ad.add (j * 3)).block, (ad.add (j * 3)).off + 2, none⟩)) rfl rfl (by kernel_rfl) (by kernel_rfl) (by kernel_rfl) (fun _ _ _ h => h) rfl (by kernel_rfl) (by kernel_rfl) rfl ?_ S0 ?_
            · (intro V hV; (try dsimp only at hV); go_simp; try with_reducible rfl)
            simp only [Act.put, List.setIfInBounds_toArray, List.set_cons_zero, List.set_cons_succ]
            refine Last2.last_take (i := 10) (d := some 47) (v := .int .i64 e2) rfl rfl (by kernel_rfl) (by kernel_rfl) (by kernel_rfl) (fun _ _ _ h => h) rfl (by kernel_rfl) (by kernel_rfl) rfl ?_ S0 ?_
            · (intro V hV; (try dsimp only at hV); go_simp; try with_reducible rfl)
            simp only [Act.put, List.setIfInBounds_toArray, List.set_cons_zero, List.set_cons_succ]
            refine Last2.last_take (i := 11) (d := some 48) (v := .agg #[.int .i64 e1, .int .i64 e2]) rfl rfl (by kernel_rfl) (by kernel_rfl) (by kernel_rfl) (fun _ _ _ h => h) rfl (by kernel_rfl) (by kernel_rfl) rfl ?_ S0 ?_
            · (intro V hV; (try dsimp only at hV); go_simp; try with_reducible rfl)
            simp only [Act.put, List.setIfInBounds_toArray, List.set_cons_zero, List.set_cons_succ]
            refine Last2.last_one (i := 12) (o := { dst := some 49, op := .buildSlice 54 1 #[(0, .tmp 48)], type := _, pos := _, after := _, guard := none }) (by kernel_rfl) rfl rfl (fun K hK => ?_)
            go_simp
            have hne : (ad.add (j * 3)).block < w.heap.size := by rw [block_of_add]; exact Nat.lt_of_lt_of_le hab hB
            have bal : Below V.heap.size V (V.alloc (.cells #[.int .i64 e1, .int .i64 e2] 105)) := (Below.refl _ _).alloc (Nat.le_refl _) _
            have S1 : (fun V : World => V.cell? ⟨(ad.add (j * 3)).block, (ad.add (j * 3)).off + 1, none⟩ = some (.int .i64 e1) ∧ V.cell? ⟨(ad.add (j * 3)).block, (ad.add (j * 3)).off + 2, none⟩ = some (.int .i64 e2)) (V.alloc (.cells #[.int .i64 e1, .int .i64 e2] 105)).drew := ⟨(bal.cell (show (⟨(ad.add (j * 3)).block, (ad.add (j * 3)).off + 1, none⟩ : Addr).block < _ from Nat.lt_of_lt_of_le hne hlV)).trans h1', (bal.cell (show (⟨(ad.add (j * 3)).block, (ad.add (j * 3)).off + 2, none⟩ : Addr).block < _ from Nat.lt_of_lt_of_le hne hlV)).trans h2'⟩
            refine hK.out _ _ (fun _ => S1) ?_
            clear hK K S0
            try simp only [Act.put, List.setIfInBounds_toArray, List.set_cons_zero, List.set_cons_succ]
            have o0 := World.ownsRow.alloc O.out (.cells #[.int .i64 e1, .int .i64 e2] 105)
            have p0 := App.pair_own (heap1_0 V (.cells #[.int .i64 e1, .int .i64 e2] 105))
            refine Last2.last_one (i := 13) (o := { dst := some 50, op := .call { callee := .builtin .append, args := #[.tmp 37, .tmp 49], argTypes := #[54, 54] }, type := _, pos := _, after := _, guard := none }) (by kernel_rfl) rfl rfl (fun K hK => ?_)
            refine App.row_wp _ (.tmp 37) (.tmp 49) 54 rfl w.heap.size 0 105 i0 _ 2 16 Try.underlying54 hi hz0 hz1 hz2 rfl (by decide) _ _ _ rfl o0 _ 1 [.int .i64 e1, .int .i64 e2] rfl p0 (by intro u hu; simp at hu; rcases hu with rfl | rfl <;> rfl) (by unfold maxLen; omega) (by omega) (by show w.heap.size ≤ (V.alloc _).heap.size; rw [World.size_alloc]; omega) ?_
            intro v1 w1 o1 g1 t1
            have ch : Chg (fun x => (Value.slice A' q.length c').ownBlock = some x) V w1 := Chg.trans (b := (V.alloc (.cells #[.int .i64 e1, .int .i64 e2] 105)).drew) (Chg.trans (Chg.alloc _ V _) (Chg.drew (fun _ => False) _) (fun _ _ h => h.elim)) (Chg.of_grown g1) (fun x _ hx => hx.symm)
            have bl : Below w.heap.size V w1 := ch.below hlV (fun x hx e => by have := (World.ownsRow.lt O.out x e).1; omega)
            have S2 : (fun V : World => V.cell? ⟨(ad.add (j * 3)).block, (ad.add (j * 3)).off + 1, none⟩ = some (.int .i64 e1) ∧ V.cell? ⟨(ad.add (j * 3)).block, (ad.add (j * 3)).off + 2, none⟩ = some (.int .i64 e2)) w1 := ⟨(bl.cell (show (⟨(ad.add (j * 3)).block, (ad.add (j * 3)).off + 1, none⟩ : Addr).block < _ from hne)).trans h1', (bl.cell (show (⟨(ad.add (j * 3)).block, (ad.add (j * 3)).off + 2, none⟩ : Addr).block < _ from hne)).trans h2'⟩
            refine hK.out _ _ (fun _ => S2) ?_
            clear hK K o0 p0 S1
            obtain ⟨A1, c1, rfl⟩ := own_slice o1
            have O1 := Lib.hid o1
            have T1 := Lib.hid (HB.out.chg O.out hlV ch)
            clear o1 g1 t1 ch bl S2 HB O bal
            try simp only [Act.put, List.setIfInBounds_toArray, List.set_cons_zero, List.set_cons_succ]
            refine Last2.last_one (i := 14) (o := { dst := some 5, op := .assign (.tmp 50), type := _, pos := _, after := _, guard := none }) (by kernel_rfl) rfl rfl (fun K hK => ?_)
            go_simp
            refine hK.out _ _ (fun h => (h (by decide)).elim) ?_
            clear hK K
            try simp only [Act.put, List.setIfInBounds_toArray, List.set_cons_zero, List.set_cons_succ]
            refine Last2.last_done (by kernel_rfl) ?_ _
            go_wp2_with fail
            go_roundw
            case rel =>
              refine ⟨j + 1, A1, c1, by omega, by go_num, ?_, ?_, T1.out⟩
              · rw [HX.out, List.length_append, List.length_singleton]
              · rw [HX.out]
                unfold OwnA
                rw [List.length_append, List.length_singleton, cells2_append]
                exact O1.out
            case measure => simp [intOf]; omega
        · have hcb : (x.par == call) = false := by simpa using hc
          have HX := Lib.hid (HNO.out j _ HS.out (HSEL.out.trans hcb))
          clear hc
          generalize picks (selK 3 (tds t) (fun o => parAt (tds t).calls o == call)) t j = q at *
          go_wp2_with fail
          go_region
          all_goals
            go_wp2_with fail
            go_roundw
            case rel => exact ⟨j + 1, A', c', by omega, by go_num, by rw [HX.out], by rw [HX.out]; exact own_below (B' := wr.heap.size) O.out ((Below.refl _ _).drew) (Nat.le_refl _), HB.out.below hlo ((Below.refl _ _).drew)⟩
            case measure => simp [intOf]; omega
      · have hcb : (e0 == 3) = false := by simpa using k0
        have HX := Lib.hid (HNO.out j _ HS.out (selK_kind k0))
        clear k0
        generalize picks (selK 3 (tds t) (fun o => parAt (tds t).calls o == call)) t j = q at *
        go_wp2_with fail
        go_region
        all_goals
          go_wp2_with fail
          go_roundw
          case rel => exact ⟨j + 1, A', c', by omega, by go_num, by rw [HX.out], by rw [HX.out]; exact own_below (B' := wr.heap.size) O.out ((Below.refl _ _).drew) (Nat.le_refl _), HB.out.below hlo ((Below.refl _ _).drew)⟩
          case measure => simp [intOf]; omega
    · obtain rfl : j = N := by omega
      have HB := Lib.hid hb
      have O := Lib.hid hown
      clear hb hown
      go_wp2_with fail
      go_ret
      exact ⟨A', c', rfl, O.out, HB.out.low⟩

end Go.Proofs.Yteagmmmniffibaa.PairsP
