import Derived.Test.YthejnpignlhgiaaSep
import Derived.Test.YthejnpignlhgiaaFrs
import Derived.Test.YthejnpignlhgiaaSays
import Derived.Test.YthejnpignlhgiaaM3
import Derived.Deep.Cut
set_option linter.all false
namespace Go.Proofs.Ythejnpignlhgiaa.Sez
open Lib (hid)
open Go.ChangeShapes Go.WideShapes Go.ChangeAt Go.RowKit
open PL Mem To Srun Sst IntsP OwnS AskP Res Swhole Sout StS Frp Frs Sep SaysP
theorem info4 : (Try.prog.info? 3).map (fun i => (i.zero, i.size, i.bytes)) = some (some (.int .i64 0), 1, 8) := by kernel_rfl
theorem one_cells (xs : List Int) : ∀ u ∈ cellsI xs, u.oneCell' = true := by
 intro u hu
 simp only [cellsI, List.mem_map] at hu
 obtain ⟨z, _, rfl⟩ := hu
 rfl
theorem l1Own_any (lo : Nat) (A : Option Addr) (n c : Nat) (xs : List Int) (hn : n ≤ 1000000) (hl : xs.length = n) (w : World) (ho : OwnI w lo (.slice A n c) xs) :
  Calls Try.prog 115 #[.slice A n c] w fun e w' => ∃ A' c', e = .returned (.slice A' n c') ∧ OwnI w' w.heap.size (.slice A' n c') xs ∧ Below w.heap.size w w' := by
 obtain ⟨i0, hi, hz0, hz1, hz2⟩ := info_parts info4
 unfold OwnI at ho
 rw [hl] at ho
 have hone := one_cells xs
 have HO := hid ho
 have HL := hid hl
 clear ho hl
 go_enter Try.func115, Try.ntmps115
 go_wp2_with (at_builtin; refine App.row_list _ rfl (.tmp 3) (.tmp 4) 26 rfl w.heap.size lo 3 i0 _ 1 8 Try.underlying26 hi hz0 hz1 hz2 rfl (by decide) (.slice (some ⟨w.heap.size, 0, none⟩) 0 0) 0 [] rfl (App.empty_own (heap1_0 w _) (Nat.le_refl _)) (.slice A n c) n (cellsI xs) rfl (own_below HO.out ((App.Bl.refl w).alloc _) (Nat.le_refl _)) hone (by unfold maxLen; omega) (by omega) (by simp) ?_)
 intro v1 w1 o1 g1 t1
 have B1 : App.Bl w w1 := ((App.Bl.refl w).alloc _).grown g1 (fun x hx => Nat.le_of_eq (by simpa [Value.ownBlock] using hx))
 clear g1 t1
 obtain ⟨A1, c1, rfl⟩ := own_slice o1
 have O1 := hid o1
 clear o1
 go_wp2
 go_ret
 refine ⟨A1, c1, by simp, ?_, B1⟩
 have := O1.out
 unfold OwnI
 rw [HL.out]
 simpa using this
theorem far5 {W : World} {b g t : Nat} {cs : Array Value} (h : Blk W b t cs) (hne : b ≠ g) (u0 u1 u2 u3 u4 : Value) : Blk (((((W.setCell ⟨g, 0, none⟩ u0).setCell ⟨g, 1, none⟩ u1).setCell ⟨g, 2, none⟩ u2).setCell ⟨g, 3, none⟩ u3).setCell ⟨g, 4, none⟩ u4) b t cs := by
 iterate 5 refine Blk.far ?_ _ _ hne
 exact h
theorem set5 {W : World} {g t : Nat} {a0 a1 a2 a3 a4 : Value} (h : Blk W g t #[a0, a1, a2, a3, a4]) (u0 u1 u2 u3 u4 : Value) : Blk (((((W.setCell ⟨g, 0, none⟩ u0).setCell ⟨g, 1, none⟩ u1).setCell ⟨g, 2, none⟩ u2).setCell ⟨g, 3, none⟩ u3).setCell ⟨g, 4, none⟩ u4) g t #[u0, u1, u2, u3, u4] := by
 have := ((((h.put 0 u0).put 1 u1).put 2 u2).put 3 u3).put 4 u4
 simpa only [List.setIfInBounds_toArray, List.set_cons_zero, List.set_cons_succ] using this
def OneR (s' : Sen) (oc : Out) (m1 m2 c1 c2 : Nat) (A1 A2 : Option Addr) (w : World) (e : Ending) (w' : World) : Prop :=
 ∃ A7 c7 A4 c4, e = .returned (.tuple #[.agg #[.slice A1 m1 c1, .slice A2 m2 c2, .slice A7 s'.says.length c7, .int .i64 s'.code, .int .i64 s'.shared], outval oc (.slice A4 oc.trace.length c4)]) ∧ OwnI w' w.heap.size (.slice A7 s'.says.length c7) s'.says ∧ Below w.heap.size w w'
set_option maxRecDepth 100000 in
set_option maxHeartbeats 8000000 in
theorem l10One_any (lo n c nj nh cj ch m1 m2 m3 c1 c2 c3 ly : Nat) (A Aj Ah A1 A2 A3 : Option Addr) (p : Pg) (fuel mode f arg : Int) (s : Sen) (hl : p.length = n) (hsm : Small p 100) (hn : n ≤ 100) (ha : asks p f arg fuel = true) (hw : WfS 12 12 s) (hm3 : s.says.length = m3) (w : World) (ho : OwnP w lo (.slice A n c) p) (hy : OwnI w ly (.slice A3 m3 c3) s.says) :
  Calls Try.prog 114 #[.agg #[.slice A n c], .agg #[.slice Aj nj cj, .slice Ah nh ch, .int .i64 mode], .int .i64 f, .int .i64 arg, .int .i64 fuel, .agg #[.slice A1 m1 c1, .slice A2 m2 c2, .slice A3 m3 c3, .int .i64 s.code, .int .i64 s.shared]] w (OneR (oneS p fuel mode s f arg) (oneR p fuel mode s f arg) m1 m2 c1 c2 A1 A2 w) := by
 obtain ⟨i0, hi, hz0, hz1, hz2⟩ := info_parts info4
 have hsn : N16 (sharedAt mode s) := sharedAt_n hw.shared
 have hru0 := fun W (b : Below w.heap.size w W) => l10From_any lo n c A p f arg fuel (sharedAt mode s) hl hsm hn ha hsn W (ho.below b)
 have hlen := frm_len (p := p) (f := f) (arg := arg) (fuel := fuel) ha hsn
 have hsl := hw.says
 rw [hm3] at hsl
 have HE := hid (show oneS p fuel mode s f arg = { s with shared := (frm p f arg fuel (sharedAt mode s)).1.shared, says := s.says ++ saids (told (frm p f arg fuel (sharedAt mode s))).trace } from rfl)
 have HR := hid (show oneR p fuel mode s f arg = told (frm p f arg fuel (sharedAt mode s)) from rfl)
 obtain ⟨sh, hsh⟩ : ∃ sh, sharedAt mode s = sh := ⟨_, rfl⟩
 have hmm : mode = 3 ∧ sh = 0 ∨ mode ≠ 3 ∧ sh = s.shared := by
  unfold sharedAt at hsh
  by_cases hm : mode = 3
  ·rw [if_pos hm] at hsh; exact .inl ⟨hm, hsh.symm⟩
  ·rw [if_neg hm] at hsh; exact .inr ⟨hm, hsh.symm⟩
 rw [hsh] at hru0 hlen HE HR
 unfold FrmR at hru0
 have htl : (told (frm p f arg fuel sh)).trace = (frm p f arg fuel sh).1.trace := rfl
 rw [htl] at hlen HE
 generalize hlf : (frm p f arg fuel sh).1.shared = lf at *
 obtain ⟨t, ht0⟩ : ∃ t, (frm p f arg fuel sh).1.trace = t := ⟨_, rfl⟩
 rw [ht0] at hru0 hlen HE htl
 obtain ⟨oc, hoc⟩ : ∃ oc, told (frm p f arg fuel sh) = oc := ⟨_, rfl⟩
 rw [hoc] at hru0 HR htl
 obtain ⟨k, v, t', sp⟩ := oc
 obtain rfl : t' = t := htl
 obtain ⟨N, hN⟩ : ∃ N, t'.length = N := ⟨_, rfl⟩
 unfold outval at hru0
 dsimp only at hru0
 rw [hN] at hru0 hlen
 have HN := hid hN
 have hru := hid hru0
 have HY := hid hy
 have HM3 := hid hm3
 obtain ⟨cd, hcd⟩ : ∃ cd, s.code = cd := ⟨_, rfl⟩
 obtain ⟨s0, hs0⟩ : ∃ s0, s.shared = s0 := ⟨_, rfl⟩
 have HCD := hid hcd
 rw [hcd, hs0]
 rw [hs0] at hmm
 clear hru0 hN ha hw hy hsm hn hl hoc ht0 hlf hsn hsh ho hm3 hcd hs0
 generalize t' = t at *
 have key : ∀ (m9 : Bool), (mode == 3) = m9 → (m9 = true → sh = 0) → (m9 = false → sh = s0) → Calls Try.prog 114 #[.agg #[.slice A n c], .agg #[.slice Aj nj cj, .slice Ah nh ch, .int .i64 mode], .int .i64 f, .int .i64 arg, .int .i64 fuel, .agg #[.slice A1 m1 c1, .slice A2 m2 c2, .slice A3 m3 c3, .int .i64 cd, .int .i64 s0]] w (OneR (oneS p fuel mode s f arg) (oneR p fuel mode s f arg) m1 m2 c1 c2 A1 A2 w) := by
  intro m9 hm9 he0 he1
  have He0 := hid he0
  have He1 := hid he1
  clear he0 he1 hmm
  go_enter Try.func114, Try.ntmps114
  go_upto_region 1 with fail
  change (fun V => Code.wp _ _ _ _ V) _
  refine gen_world (X := fun V => (Blk V w.heap.size 35 #[.slice A n c] ∧ Blk V (w.heap.size + 1 + 1) 110 #[.slice A1 m1 c1, .slice A2 m2 c2, .slice A3 m3 c3, .int .i64 cd, .int .i64 s0] ∧ Blk V (w.heap.size + 1 + 1 + 1) 110 #[.slice none 0 0, .slice none 0 0, .slice none 0 0, .int .i64 0, .int .i64 0] ∧ Blk V (w.heap.size + 1 + 1 + 1 + 1) 56 #[.int .i64 0, .int .i64 0, .slice none 0 0, .int .i64 0]) ∧ Blk V (w.heap.size + 1) 39 #[.slice Aj nj cj, .slice Ah nh ch, .int .i64 mode] ∧ Below w.heap.size w V) ⟨⟨((((new_at rfl).alloc _).alloc _).alloc _).alloc _, ((new_at (by simp)).alloc _).alloc _, (new_at (by simp)).alloc _, new_at (by simp)⟩, (((new_at (by simp)).alloc _).alloc _).alloc _, ((((((Below.refl _ _).alloc (Nat.le_refl _) _).alloc (by simp) _).alloc (by simp <;> omega) _).alloc (by simp <;> omega) _).alloc (by simp <;> omega) _)⟩ ?_
  rintro V ⟨⟨q0, q2, q3, q4⟩, q1, b⟩
  have zm : V.cell? ⟨w.heap.size + 1, 2, none⟩ = some (.int .i64 mode) := q1.cells 2
  have z4 : V.cell? ⟨w.heap.size + 1 + 1, 4, none⟩ = some (.int .i64 s0) := q2.cells 4
  have f4 : V.frozen? ⟨w.heap.size + 1 + 1, 4, none⟩ = false := q2.frozen 4
  have Q0 := hid q0
  have Q2 := hid q2
  have Q3 := hid q3
  have Q4 := hid q4
  have QB := hid b
  clear q0 q1 q2 q3 q4 b
  go_upto_if 18 with fail
  go_cut [] from 16 to 19 (fun wx => (Blk wx w.heap.size 35 #[.slice A n c] ∧ Blk wx (w.heap.size + 1 + 1) 110 #[.slice A1 m1 c1, .slice A2 m2 c2, .slice A3 m3 c3, .int .i64 cd, .int .i64 sh] ∧ Blk wx (w.heap.size + 1 + 1 + 1) 110 #[.slice none 0 0, .slice none 0 0, .slice none 0 0, .int .i64 0, .int .i64 0] ∧ Blk wx (w.heap.size + 1 + 1 + 1 + 1) 56 #[.int .i64 0, .int .i64 0, .slice none 0 0, .int .i64 0]) ∧ Below w.heap.size w wx)
  case first =>
   cases m9 with
   | true =>
    have hs0 := He0.out rfl
    go_wp2_with fail
    go_meet
    rw [hs0]
    refine ⟨⟨Q0.out.far ⟨w.heap.size + 1 + 1, 4, none⟩ _ (by show w.heap.size ≠ w.heap.size + 1 + 1; omega), ?_, Q3.out.far ⟨w.heap.size + 1 + 1, 4, none⟩ _ (by show w.heap.size + 1 + 1 + 1 ≠ w.heap.size + 1 + 1; omega), Q4.out.far ⟨w.heap.size + 1 + 1, 4, none⟩ _ (by show w.heap.size + 1 + 1 + 1 + 1 ≠ w.heap.size + 1 + 1; omega)⟩, QB.out.setCell (p := ⟨w.heap.size + 1 + 1, 4, none⟩) (by show w.heap.size ≤ w.heap.size + 1 + 1; omega) _⟩
    have := Q2.out.put 4 (.int .i64 0)
    simpa only [List.setIfInBounds_toArray, List.set_cons_zero, List.set_cons_succ] using this
   | false =>
    have hs0 := He1.out rfl
    go_wp2_with fail
    go_meet
    rw [hs0]
    exact ⟨⟨Q0.out, Q2.out, Q3.out, Q4.out⟩, QB.out⟩
  case rest =>
   obtain ⟨⟨q0, q2, q3, q4⟩, b⟩ := hcut
   clear Q0 Q2 Q3 Q4 QB zm z4 f4 He0 He1 hm9
   have z0 : wc.cell? ⟨w.heap.size, 0, none⟩ = some (.slice A n c) := q0.cells 0
   have z4 : wc.cell? ⟨w.heap.size + 1 + 1, 4, none⟩ = some (.int .i64 sh) := q2.cells 4
   have Q2 := hid q2
   have Q3 := hid q3
   have Q4 := hid q4
   have QB := hid b
   clear q0 q2 q3 q4 b
   go_wp2_with fail
   refine (hru.out wc QB.out).mono ?_
   rintro e W2 ⟨A4, c4, rfl, htr, b2⟩
   unfold Tre at htr
   rw [HN.out] at htr
   have R2 := hid (Q2.out.below b2 Q2.out.lt)
   have R3 := hid (Q3.out.below b2 Q3.out.lt)
   have R4 := hid (Q4.out.below b2 Q4.out.lt)
   have RB := hid (QB.out.trans (b2.mono QB.out.size))
   have HT := hid htr
   have z5 : W2.cell? ⟨w.heap.size + 1 + 1, 4, none⟩ = some (.int .i64 sh) := R2.out.cells 4
   have f5 : W2.frozen? ⟨w.heap.size + 1 + 1, 4, none⟩ = false := R2.out.frozen 4
   have hl4 := R4.out.lt
   have hl2 := R2.out.lt
   clear z0 z4 htr b2 Q2 Q3 Q4 QB hru
   go_upto_region 5 with fail
   change (fun V => Code.wp _ _ _ _ V) _
   refine gen_world (X := fun V => (Blk V (w.heap.size + 1 + 1) 110 #[.slice A1 m1 c1, .slice A2 m2 c2, .slice A3 m3 c3, .int .i64 cd, .int .i64 lf] ∧ Blk V (w.heap.size + 1 + 1 + 1) 110 #[.slice none 0 0, .slice none 0 0, .slice none 0 0, .int .i64 0, .int .i64 0] ∧ Blk V (w.heap.size + 1 + 1 + 1 + 1) 56 #[.int .i64 0, .int .i64 0, .slice none 0 0, .int .i64 0]) ∧ Blk V W2.heap.size 56 #[.int .i64 k, .int .i64 v, .slice A4 N c4, .int .i64 sp] ∧ V.ownsRow wc.heap.size 94 3 (.slice A4 N c4) N (cells3 t) ∧ Below w.heap.size w V) ?_ ?_
   ·have n2 : w.heap.size + 1 + 1 + 1 ≠ w.heap.size + 1 + 1 := by omega
    have n3 : w.heap.size + 1 + 1 + 1 + 1 ≠ w.heap.size + 1 + 1 := by omega
    have hp := R2.out.put 4 (.int .i64 lf)
    simp only [List.setIfInBounds_toArray, List.set_cons_zero, List.set_cons_succ] at hp
    exact ⟨⟨hp.alloc _, (R3.out.far ⟨w.heap.size + 1 + 1, 4, none⟩ _ n2).alloc _, (R4.out.far ⟨w.heap.size + 1 + 1, 4, none⟩ _ n3).alloc _⟩, new_at (by simp [World.setCell]), World.ownsRow.alloc (own_far HT.out _ _ (blk_apart HT.out R2.out (by decide))) _, (RB.out.setCell (p := ⟨w.heap.size + 1 + 1, 4, none⟩) (by show w.heap.size ≤ w.heap.size + 1 + 1; omega) _).alloc (by have := RB.out.size; simpa [World.setCell] using this) _⟩
   clear z5 f5 R2 R3 R4 RB HT
   rintro V ⟨⟨q2, q3, q4⟩, q5, ht, b⟩
   generalize W2.heap.size = b14 at *
   have Q2 := hid q2
   have Q3 := hid q3
   have Q4 := hid q4
   have Q5 := hid q5
   have HT := hid ht
   have QB := hid b
   have hVs := b.size
   have hls : (saids t).length ≤ 602 := by have := SaysP.saids_len t; rw [HN.out] at this; omega
   clear q2 q3 q4 q5 ht b
   have HO := hid (fun (U : World) (b : Below V.heap.size V U) => (show (fun V : World => V.cell? ⟨w.heap.size + 1 + 1, 2, none⟩ = some (.slice A3 m3 c3) ∧ (∀ o, V.cell? ⟨b14, o, none⟩ = (#[.int .i64 k, .int .i64 v, .slice A4 N c4, .int .i64 sp] : Array Value)[o]?)) U from ⟨(Q2.out.below b Q2.out.lt).cells 2, (Q5.out.below b Q5.out.lt).cells⟩))
   have bD : Below V.heap.size V V.drew := (Below.refl _ _).drew
   have S50 := HO.out V.drew bD
   go_wp2_with fail
   refine Last2.region_last [7] (fun V : World => V.cell? ⟨w.heap.size + 1 + 1, 2, none⟩ = some (.slice A3 m3 c3) ∧ (∀ o, V.cell? ⟨b14, o, none⟩ = (#[.int .i64 k, .int .i64 v, .slice A4 N c4, .int .i64 sp] : Array Value)[o]?)) (by kernel_rfl) ?_
   refine Last2.last_take (i := 0) (d := some 32) (v := .pointer (some ⟨w.heap.size + 1 + 1, 2, none⟩)) rfl rfl (by kernel_rfl) (by kernel_rfl) (by kernel_rfl) (fun _ _ _ h => h) rfl (by kernel_rfl) (by kernel_rfl) rfl ?_ S50 ?_
   ·(intro V hV; (try dsimp only at hV); go_simp; try with_reducible rfl)
   simp only [Act.put, List.setIfInBounds_toArray, List.set_cons_zero, List.set_cons_succ]
   refine Last2.last_take (i := 1) (d := some 33) (v := .slice A3 m3 c3) rfl rfl (by kernel_rfl) (by kernel_rfl) (by kernel_rfl) (fun _ _ _ h => h) rfl (by kernel_rfl) (by kernel_rfl) rfl ?_ S50 ?_
   ·(intro V hV; (try dsimp only at hV); go_simp; try with_reducible rfl)
   simp only [Act.put, List.setIfInBounds_toArray, List.set_cons_zero, List.set_cons_succ]
   refine Last2.last_take (i := 3) (d := some 35) (v := .agg #[.int .i64 k, .int .i64 v, .slice A4 N c4, .int .i64 sp]) rfl rfl (by kernel_rfl) (by kernel_rfl) (by kernel_rfl) (fun _ _ _ h => h) rfl (by kernel_rfl) (by kernel_rfl) rfl ?_ S50 ?_
   ·(intro V hV; (try dsimp only at hV); go_simp; try with_reducible rfl)
   simp only [Act.put, List.setIfInBounds_toArray, List.set_cons_zero, List.set_cons_succ]
   refine Last2.last_one (i := 2) (o := { dst := some 34, op := .call { callee := .value (.func 115), args := #[.tmp 33], argTypes := #[26] }, type := _, pos := _, after := _, guard := none }) (by kernel_rfl) rfl rfl (fun K hK => ?_)
   go_simp
   refine (l1Own_any ly A3 m3 c3 s.says (by omega) HM3.out V.drew (own_below HY.out (QB.out.trans (bD.mono hVs)) (Nat.le_refl _))).mono ?_
   rintro e w5 ⟨A5, c5, rfl, o5, b5⟩
   have t5 : Below V.heap.size V w5 := bD.trans b5
   have S51 := HO.out w5 t5
   unfold OwnI at o5
   rw [HM3.out] at o5
   have O5 := hid o5
   refine hK.out _ _ (fun _ => S51) ?_
   clear hK K S50 o5
   try simp only [Act.put, List.setIfInBounds_toArray, List.set_cons_zero, List.set_cons_succ]
   refine Last2.last_one (i := 4) (o := { dst := some 36, op := .call { callee := .value (.func 129), args := #[.tmp 35], argTypes := #[56] }, type := _, pos := _, after := _, guard := none }) (by kernel_rfl) rfl rfl (fun K hK => ?_)
   go_simp
   refine (l2Says_any w5.heap.size N c4 A4 t k v sp HN.out (by omega) w5 (rd_own (own_below HT.out t5 (Nat.le_refl _))) (Nat.le_refl _)).mono ?_
   rintro e w6 ⟨A6, c6, rfl, o6, b6⟩
   have t6 : Below V.heap.size V w6 := t5.trans (b6.mono t5.size)
   have S52 := HO.out w6 t6
   have O56 := hid (own_mono (B' := w.heap.size) (own_below O5.out b6 (Nat.le_refl _)) hVs)
   have O6 := hid (show w6.ownsRow w5.heap.size 3 1 (.slice A6 (saids t).length c6) (saids t).length (cellsI (saids t)) from o6)
   refine hK.out _ _ (fun _ => S52) ?_
   clear hK K S51 o6 b6 b5 O5
   try simp only [Act.put, List.setIfInBounds_toArray, List.set_cons_zero, List.set_cons_succ]
   refine Last2.last_one (i := 5) (o := { dst := some 37, op := .call { callee := .builtin .append, args := #[.tmp 34, .tmp 36], argTypes := #[26, 26] }, type := _, pos := _, after := _, guard := none }) (by kernel_rfl) rfl rfl (fun K hK => ?_)
   refine App.row_wp _ (.tmp 34) (.tmp 36) 26 rfl w.heap.size w5.heap.size 3 i0 _ 1 8 Try.underlying26 hi hz0 hz1 hz2 rfl (by decide) _ _ _ rfl O56.out _ (saids t).length (cellsI (saids t)) rfl O6.out (one_cells _) (by unfold maxLen; omega) (by omega) (Nat.le_trans hVs t6.size) ?_
   intro v' w7 o7 g7 u7
   obtain ⟨A7, c7, rfl⟩ := own_slice o7
   have ch : Chg (fun x => (Value.slice A5 m3 c5).ownBlock = some x) w6 w7 := (Chg.of_grown g7).mono (fun x _ hx => hx.symm)
   have Y2 := hid ((Q2.out.below t6 Q2.out.lt).chg ch (blk_apart O56.out (Q2.out.below t6 Q2.out.lt) (by decide)))
   have Y3 := hid ((Q3.out.below t6 Q3.out.lt).chg ch (blk_apart O56.out (Q3.out.below t6 Q3.out.lt) (by decide)))
   have Y4 := hid ((Q4.out.below t6 Q4.out.lt).chg ch (blk_apart O56.out (Q4.out.below t6 Q4.out.lt) (by decide)))
   have Y5 := hid ((Q5.out.below t6 Q5.out.lt).chg ch (blk_apart O56.out (Q5.out.below t6 Q5.out.lt) (by decide)))
   have YB := hid ((QB.out.trans (t6.mono hVs)).trans (ch.below (Nat.le_trans hVs t6.size) (fun x hx e => by have := (World.ownsRow.lt O56.out x e).1; omega)))
   have O7 := hid o7
   have S53 : (fun V : World => V.cell? ⟨w.heap.size + 1 + 1, 2, none⟩ = some (.slice A3 m3 c3) ∧ (∀ o, V.cell? ⟨b14, o, none⟩ = (#[.int .i64 k, .int .i64 v, .slice A4 N c4, .int .i64 sp] : Array Value)[o]?)) w7 := ⟨Y2.out.cells 2, Y5.out.cells⟩
   have k7 := S53.1
   have f7 : w7.frozen? ⟨w.heap.size + 1 + 1, 2, none⟩ = false := Y2.out.frozen 2
   refine hK.out _ _ (fun _ => S53) ?_
   clear hK K o7 g7 u7 ch S52 t5 t6 O56 O6
   try simp only [Act.put, List.setIfInBounds_toArray, List.set_cons_zero, List.set_cons_succ]
   refine Last2.last_one (i := 6) (o := { dst := some 38, op := .fieldAddr 110 (.tmp 11) 2, type := _, pos := _, after := _, guard := none }) (by kernel_rfl) rfl rfl (fun K hK => ?_)
   go_simp
   refine hK.out _ _ (fun _ => S53) ?_
   clear hK K
   try simp only [Act.put, List.setIfInBounds_toArray, List.set_cons_zero, List.set_cons_succ]
   refine Last2.last_one (i := 7) (o := { dst := none, op := .store 26 (.tmp 38) (.tmp 37), type := _, pos := _, after := _, guard := none }) (by kernel_rfl) rfl rfl (fun K hK => ?_)
   go_simp
   refine hK.out _ _ (fun h => (h (by decide)).elim) ?_
   clear hK K
   try simp only [Act.put, List.setIfInBounds_toArray, List.set_cons_zero, List.set_cons_succ]
   refine Last2.last_done (by kernel_rfl) ?_ _
   clear k7 f7 S53 HO Q2 Q3 Q4 Q5 QB HT bD
   (try change (fun V => Exit.then _ _ _ _ V) _)
   refine gen_world (X := fun V => (Blk V (w.heap.size + 1 + 1) 110 #[.slice A1 m1 c1, .slice A2 m2 c2, (.slice A7 (m3 + (saids t).length) c7), .int .i64 cd, .int .i64 lf] ∧ Blk V (w.heap.size + 1 + 1 + 1) 110 #[.slice none 0 0, .slice none 0 0, .slice none 0 0, .int .i64 0, .int .i64 0] ∧ Blk V (w.heap.size + 1 + 1 + 1 + 1) 56 #[.int .i64 0, .int .i64 0, .slice none 0 0, .int .i64 0]) ∧ Blk V b14 56 #[.int .i64 k, .int .i64 v, .slice A4 N c4, .int .i64 sp] ∧ V.ownsRow w.heap.size 3 1 (.slice A7 (m3 + (saids t).length) c7) (m3 + (saids t).length) (cellsI s.says ++ cellsI (saids t)) ∧ Below w.heap.size w V) ?_ ?_
   ·have hp := Y2.out.put 2 (.slice A7 (m3 + (saids t).length) c7)
    simp only [List.setIfInBounds_toArray, List.set_cons_zero, List.set_cons_succ] at hp
    exact ⟨⟨hp, Y3.out.far ⟨w.heap.size + 1 + 1, 2, none⟩ _ (by show w.heap.size + 1 + 1 + 1 ≠ w.heap.size + 1 + 1; omega), Y4.out.far ⟨w.heap.size + 1 + 1, 2, none⟩ _ (by show w.heap.size + 1 + 1 + 1 + 1 ≠ w.heap.size + 1 + 1; omega)⟩, Y5.out.far ⟨w.heap.size + 1 + 1, 2, none⟩ _ (by show b14 ≠ w.heap.size + 1 + 1; omega), own_far O7.out _ _ (blk_apart O7.out Y2.out (by decide)), YB.out.setCell (p := ⟨w.heap.size + 1 + 1, 2, none⟩) (by show w.heap.size ≤ w.heap.size + 1 + 1; omega) _⟩
   clear Y2 Y3 Y4 Y5 YB O7 hVs
   rintro U ⟨⟨q2, q3, q4⟩, q5, ht, b⟩
   have Q2 := hid (blk_drew q2)
   have Q3 := hid (blk_drew q3)
   have Q4 := hid (blk_drew q4)
   have Q5 := hid (blk_drew q5)
   have HT := hid (World.ownsRow.drew ht)
   have QB := hid (Below.drew b)
   have z3 := (blk_drew q3).cells
   have f3 := (blk_drew q3).frozen
   clear q2 q3 q4 q5 ht b
   have S60 : (fun V : World => (∀ o, V.cell? ⟨w.heap.size + 1 + 1, o, none⟩ = (#[.slice A1 m1 c1, .slice A2 m2 c2, (.slice A7 (m3 + (saids t).length) c7), .int .i64 cd, .int .i64 lf] : Array Value)[o]?) ∧ (∀ o, V.cell? ⟨b14, o, none⟩ = (#[.int .i64 k, .int .i64 v, .slice A4 N c4, .int .i64 sp] : Array Value)[o]?)) U.drew := ⟨Q2.out.cells, Q5.out.cells⟩
   go_wp2_with fail
   refine Last2.region_last [3] (fun V : World => (∀ o, V.cell? ⟨w.heap.size + 1 + 1, o, none⟩ = (#[.slice A1 m1 c1, .slice A2 m2 c2, (.slice A7 (m3 + (saids t).length) c7), .int .i64 cd, .int .i64 lf] : Array Value)[o]?) ∧ (∀ o, V.cell? ⟨b14, o, none⟩ = (#[.int .i64 k, .int .i64 v, .slice A4 N c4, .int .i64 sp] : Array Value)[o]?)) (by kernel_rfl) ?_
   generalize U.drew = U2 at *
   refine Last2.last_take (i := 0) (d := some 39) (v := .agg #[.slice A1 m1 c1, .slice A2 m2 c2, (.slice A7 (m3 + (saids t).length) c7), .int .i64 cd, .int .i64 lf]) rfl rfl (by kernel_rfl) (by kernel_rfl) (by kernel_rfl) (fun _ _ _ h => h) rfl (by kernel_rfl) (by kernel_rfl) rfl ?_ S60 ?_
   ·(intro V hV; (try dsimp only at hV); go_simp; try with_reducible rfl)
   simp only [Act.put, List.setIfInBounds_toArray, List.set_cons_zero, List.set_cons_succ]
   refine Last2.last_take (i := 1) (d := some 40) (v := .agg #[.int .i64 k, .int .i64 v, .slice A4 N c4, .int .i64 sp]) rfl rfl (by kernel_rfl) (by kernel_rfl) (by kernel_rfl) (fun _ _ _ h => h) rfl (by kernel_rfl) (by kernel_rfl) rfl ?_ S60 ?_
   ·(intro V hV; (try dsimp only at hV); go_simp; try with_reducible rfl)
   simp only [Act.put, List.setIfInBounds_toArray, List.set_cons_zero, List.set_cons_succ]
   refine Last2.last_one (i := 2) (o := { dst := none, op := .store 110 (.tmp 12) (.tmp 39), type := _, pos := _, after := _, guard := none }) (by kernel_rfl) rfl rfl (fun K hK => ?_)
   go_simp
   have hw3 := far5 Q2.out (show w.heap.size + 1 + 1 ≠ w.heap.size + 1 + 1 + 1 by omega) (.slice A1 m1 c1) (.slice A2 m2 c2) (.slice A7 (m3 + (saids t).length) c7) (.int .i64 cd) (.int .i64 lf)
   have hw5 := far5 Q5.out (show b14 ≠ w.heap.size + 1 + 1 + 1 by omega) (.slice A1 m1 c1) (.slice A2 m2 c2) (.slice A7 (m3 + (saids t).length) c7) (.int .i64 cd) (.int .i64 lf)
   have hw4 := far5 Q4.out (show w.heap.size + 1 + 1 + 1 + 1 ≠ w.heap.size + 1 + 1 + 1 by omega) (.slice A1 m1 c1) (.slice A2 m2 c2) (.slice A7 (m3 + (saids t).length) c7) (.int .i64 cd) (.int .i64 lf)
   have hwr := set5 Q3.out (.slice A1 m1 c1) (.slice A2 m2 c2) (.slice A7 (m3 + (saids t).length) c7) (.int .i64 cd) (.int .i64 lf)
   have z4 := hw4.cells
   have f4 := hw4.frozen
   have W4 := hid hw4
   have WR := hid hwr
   refine hK.out _ _ (fun _ => ⟨hw3.cells, hw5.cells⟩) ?_
   clear hK K S60 hw3 hw5 hw4 hwr z3 f3
   try simp only [Act.put, List.setIfInBounds_toArray, List.set_cons_zero, List.set_cons_succ]
   refine Last2.last_one (i := 3) (o := { dst := none, op := .store 56 (.tmp 13) (.tmp 40), type := _, pos := _, after := _, guard := none }) (by kernel_rfl) rfl rfl (fun K hK => ?_)
   go_simp
   refine hK.out _ _ (fun h => (h (by decide)).elim) ?_
   clear hK K z4 f4
   try simp only [Act.put, List.setIfInBounds_toArray, List.set_cons_zero, List.set_cons_succ]
   refine Last2.last_done (by kernel_rfl) ?_ _
   (try change (fun V => Exit.then _ _ _ _ V) _)
   refine gen_world (X := fun V => Blk V (w.heap.size + 1 + 1 + 1) 110 #[.slice A1 m1 c1, .slice A2 m2 c2, (.slice A7 (m3 + (saids t).length) c7), .int .i64 cd, .int .i64 lf] ∧ Blk V (w.heap.size + 1 + 1 + 1 + 1) 56 #[.int .i64 k, .int .i64 v, .slice A4 N c4, .int .i64 sp] ∧ V.ownsRow w.heap.size 3 1 (.slice A7 (m3 + (saids t).length) c7) (m3 + (saids t).length) (cellsI s.says ++ cellsI (saids t)) ∧ Below w.heap.size w V) ?_ ?_
   ·have n4 : w.heap.size + 1 + 1 + 1 ≠ w.heap.size + 1 + 1 + 1 + 1 := by omega
    have na := blk_apart HT.out Q3.out (by decide)
    have nb := blk_apart HT.out Q4.out (by decide)
    refine ⟨?_, Blk.set4 W4.out _ _ _ _, ?_, ?_⟩
    ·iterate 4 refine Blk.far ?_ _ _ n4
     exact WR.out
    ·iterate 4 refine own_far ?_ _ _ nb
     iterate 5 refine own_far ?_ _ _ na
     exact HT.out
    ·iterate 4 refine Below.setCell ?_ (by show w.heap.size ≤ w.heap.size + 1 + 1 + 1 + 1; omega) _
     iterate 5 refine Below.setCell ?_ (by show w.heap.size ≤ w.heap.size + 1 + 1 + 1; omega) _
     exact QB.out
   clear Q2 Q3 Q4 Q5 HT QB W4 WR
   rintro V3 ⟨q3, q4, ht, b⟩
   have y3 := q3.cells
   have y4 := q4.cells
   have HT := hid ht
   have QB := hid b
   clear q3 q4 ht b
   go_wp2_with fail
   refine bodyPost_ret (v := .tuple #[.agg #[.slice A1 m1 c1, .slice A2 m2 c2, (.slice A7 (m3 + (saids t).length) c7), .int .i64 cd, .int .i64 lf], .agg #[.int .i64 k, .int .i64 v, .slice A4 N c4, .int .i64 sp]]) (by simp [results, Try.results114, go_sem, y3, y4]) rfl ?_
   rw [HE.out, HR.out]
   refine ⟨A7, c7, A4, c4, ?_, ?_, QB.out⟩
   ·unfold outval
    dsimp only
    rw [HN.out, List.length_append, HM3.out, HCD.out]
   ·unfold OwnI
    dsimp only
    rw [List.length_append, HM3.out, cellsI_append]
    exact HT.out
 rcases hmm with ⟨h1, h2⟩ | ⟨h1, h2⟩
 ·exact key true (by simpa using h1) (fun _ => h2) (fun h => by cases h)
 ·exact key false (by simpa using h1) (fun h => by cases h) (fun _ => h2)
end Go.Proofs.Ythejnpignlhgiaa.Sez
-- squeezed
