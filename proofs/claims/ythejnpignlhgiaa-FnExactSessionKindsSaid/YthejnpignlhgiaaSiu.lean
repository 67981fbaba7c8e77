import Derived.Test.YthejnpignlhgiaaSit
import Derived.Test.YthejnpignlhgiaaCdo
set_option linter.all false
namespace Go.Proofs.Ythejnpignlhgiaa.Siu
open Lib (hid)
open Go.ChangeShapes Go.WideShapes Go.ChangeAt Go.RowKit
open PL Mem To Srun Sst IntsP OwnS AskP Res Swhole Sout StS Frp Fri Sep SaysP Sit Cdo
set_option maxRecDepth 100000 in
set_option maxHeartbeats 8000000 in
theorem runJob_any {w0 W1 : World} {g lo0 n c : Nat} {A : Option Addr} {p : Pg} (E : Env w0 W1 g lo0 n c A p) (fuel mode jf ja : Int) (s : Sen) (v1 v2 v3 : Value) (ha : asks p jf ja fuel = true) (hw : WfS 12 12 s) (W : World) (h : Sit W1 g n c A fuel mode s v1 v2 v3 W) :
  Calls Try.prog 132 #[.pointer (some ⟨g, 0, none⟩), .agg #[.int .i64 jf, .int .i64 ja]] W fun e W' => ∃ v1' v3', e = .returned (.bool ((oneR p fuel mode s jf ja).kind == 1)) ∧ Sit W1 g n c A fuel mode (jobS p fuel mode s (jf, ja)) v1' v2 v3' W' := by
 obtain ⟨i0, hi, hz0, hz1, hz2⟩ := info_parts Sit.info3
 have hru0 := fun W (h : Sit W1 g n c A fuel mode s v1 v2 v3 W) => sitRun_any E fuel mode jf ja s v1 v2 v3 ha hw W h
 have hjl : (oneS p fuel mode s jf ja).jobs.length ≤ 12 := hw.jobs
 have hkd : 1 ≤ (oneR p fuel mode s jf ja).kind ∧ (oneR p fuel mode s jf ja).kind ≤ 4 := frm_kind ha
 have hvl : N16 (oneR p fuel mode s jf ja).value := by have hf := frm_wf ha (sharedAt_n (mode := mode) hw.shared); exact told_value hf.1 hf.2
 have HJ := hid (show jobS p fuel mode s (jf, ja) = { oneS p fuel mode s jf ja with jobs := (oneS p fuel mode s jf ja).jobs ++ [(oneR p fuel mode s jf ja).kind], code := max (oneS p fuel mode s jf ja).code (codeO (oneR p fuel mode s jf ja)) } from rfl)
 generalize oneS p fuel mode s jf ja = s1 at *
 generalize oneR p fuel mode s jf ja = oc at *
 obtain ⟨k, v, t, sp⟩ := oc
 dsimp only at hkd hvl HJ
 obtain ⟨N, hN⟩ : ∃ N, t.length = N := ⟨_, rfl⟩
 unfold RunV outval at hru0
 dsimp only at hru0
 rw [hN] at hru0
 have hru := hid hru0
 obtain ⟨q, hq⟩ : ∃ q, codeO { kind := k, value := v, trace := t, spent := sp } = q := ⟨_, rfl⟩
 have hco0 := fun A2 c2 W => codeOf_any A2 N c2 t k v sp hkd hvl W
 rw [hq] at hco0
 have hco := hid hco0
 have HQ := hid hq
 clear hco0 hq
 have H1 := hid h
 have hal := hid (show Below W.heap.size W (W.alloc (.cells #[.int .i64 jf, .int .i64 ja] 142)) from (Below.refl _ _).alloc (Nat.le_refl _) _)
 rw [HJ.out]
 clear hru0 hN ha hw E h hvl hkd
 go_enter Try.func132, Try.ntmps132
 go_wp2_with fail
 refine (hru.out _ (H1.out.below hal.out)).mono ?_
 rintro e W2 ⟨A2, c2, v3', rfl, hs2⟩
 have S2 := hid hs2
 clear hs2 hru H1 hal
 go_upto_region 2 with fail
 change (fun V => Code.wp _ _ _ _ V) _
 refine gen_world (X := fun V => Sit W1 g n c A fuel mode s1 v1 v2 v3' V ∧ Blk V W2.heap.size 56 #[.int .i64 k, .int .i64 v, .slice A2 N c2, .int .i64 sp]) ⟨S2.out.below ((Below.refl _ _).alloc (Nat.le_refl _) _), heap1_0 W2 _⟩ ?_
 clear S2
 generalize W2.heap.size = b7
 generalize v3' = v3
 rintro V ⟨q1, q2⟩
 have hne7 : b7 ≠ g := Frs.ne_blkF q2 q1.blk (by decide)
 have S4 := hid q1
 have X7 := hid q2
 clear q1 q2
 have hsz1 : W1.heap.size ≤ V.heap.size := S4.out.chg.size
 have HO := hid (fun (U : World) (b : Below V.heap.size V U) => (show (fun V : World => V.cell? ⟨g, 5, none⟩ = some v1 ∧ V.cell? ⟨b7, 0, none⟩ = some (.int .i64 k)) U from ⟨(S4.out.blk.below b S4.out.blk.lt).cells 5, (X7.out.below b X7.out.lt).cells 0⟩))
 have S50 := HO.out V.drew (Below.refl _ _).drew
 go_wp2_with fail
 refine Last2.region_last [11] (fun V : World => V.cell? ⟨g, 5, none⟩ = some v1 ∧ V.cell? ⟨b7, 0, none⟩ = some (.int .i64 k)) (by kernel_rfl) ?_
 refine Last2.last_take (i := 0) (d := some 12) (v := .pointer (some ⟨g, 0, none⟩)) rfl rfl (by kernel_rfl) (by kernel_rfl) (by kernel_rfl) (fun _ _ _ h => h) rfl (by kernel_rfl) (by kernel_rfl) rfl ?_ S50 ?_
 ·(intro V hV; (try dsimp only at hV); go_simp; try with_reducible rfl)
 simp only [Act.put, List.setIfInBounds_toArray, List.set_cons_zero, List.set_cons_succ]
 refine Last2.last_take (i := 1) (d := some 13) (v := .pointer (some ⟨g, 0, none⟩)) rfl rfl (by kernel_rfl) (by kernel_rfl) (by kernel_rfl) (fun _ _ _ h => h) rfl (by kernel_rfl) (by kernel_rfl) rfl ?_ S50 ?_
 ·(intro V hV; (try dsimp only at hV); go_simp; try with_reducible rfl)
 simp only [Act.put, List.setIfInBounds_toArray, List.set_cons_zero, List.set_cons_succ]
 refine Last2.last_take (i := 2) (d := some 14) (v := .pointer (some ⟨g, 0, none⟩)) rfl rfl (by kernel_rfl) (by kernel_rfl) (by kernel_rfl) (fun _ _ _ h => h) rfl (by kernel_rfl) (by kernel_rfl) rfl ?_ S50 ?_
 ·(intro V hV; (try dsimp only at hV); go_simp; try with_reducible rfl)
 simp only [Act.put, List.setIfInBounds_toArray, List.set_cons_zero, List.set_cons_succ]
 refine Last2.last_take (i := 3) (d := some 15) (v := .pointer (some ⟨g, 5, none⟩)) rfl rfl (by kernel_rfl) (by kernel_rfl) (by kernel_rfl) (fun _ _ _ h => h) rfl (by kernel_rfl) (by kernel_rfl) rfl ?_ S50 ?_
 ·(intro V hV; (try dsimp only at hV); go_simp; try with_reducible rfl)
 simp only [Act.put, List.setIfInBounds_toArray, List.set_cons_zero, List.set_cons_succ]
 refine Last2.last_take (i := 4) (d := some 16) (v := v1) rfl rfl (by kernel_rfl) (by kernel_rfl) (by kernel_rfl) (fun _ _ _ h => h) rfl (by kernel_rfl) (by kernel_rfl) rfl ?_ S50 ?_
 ·(intro V hV; (try dsimp only at hV); go_simp; try with_reducible rfl)
 simp only [Act.put, List.setIfInBounds_toArray, List.set_cons_zero, List.set_cons_succ]
 refine Last2.last_take (i := 5) (d := some 17) (v := .pointer (some ⟨b7, 0, none⟩)) rfl rfl (by kernel_rfl) (by kernel_rfl) (by kernel_rfl) (fun _ _ _ h => h) rfl (by kernel_rfl) (by kernel_rfl) rfl ?_ S50 ?_
 ·(intro V hV; (try dsimp only at hV); go_simp; try with_reducible rfl)
 simp only [Act.put, List.setIfInBounds_toArray, List.set_cons_zero, List.set_cons_succ]
 refine Last2.last_take (i := 6) (d := some 18) (v := .int .i64 k) rfl rfl (by kernel_rfl) (by kernel_rfl) (by kernel_rfl) (fun _ _ _ h => h) rfl (by kernel_rfl) (by kernel_rfl) rfl ?_ S50 ?_
 ·(intro V hV; (try dsimp only at hV); go_simp; try with_reducible rfl)
 simp only [Act.put, List.setIfInBounds_toArray, List.set_cons_zero, List.set_cons_succ]
 refine Last2.last_one (i := 7) (o := { dst := some 19, op := .buildSlice 26 1 #[(0, .tmp 18)], type := _, pos := _, after := _, guard := none }) (by kernel_rfl) rfl rfl (fun K hK => ?_)
 go_simp
 have bal : Below V.heap.size V (V.drew.alloc (.cells #[.int .i64 k] 3)) := (Below.refl _ _).drew.alloc (Nat.le_refl _) _
 have S51 := HO.out _ bal
 refine hK.out _ _ (fun _ => S51) ?_
 clear hK K S50
 try simp only [Act.put, List.setIfInBounds_toArray, List.set_cons_zero, List.set_cons_succ]
 have S5 := hid (S4.out.below bal)
 have X75 := hid (X7.out.below bal X7.out.lt)
 have p0 := App.one_own (heap1_0 V.drew (.cells #[.int .i64 k] 3))
 refine Last2.last_one (i := 8) (o := { dst := some 20, op := .call { callee := .builtin .append, args := #[.tmp 16, .tmp 19], argTypes := #[26, 26] }, type := _, pos := _, after := _, guard := none }) (by kernel_rfl) rfl rfl (fun K hK => ?_)
 refine App.row_wp _ (.tmp 16) (.tmp 19) 26 rfl W1.heap.size 0 3 i0 _ 1 8 Try.underlying26 hi hz0 hz1 hz2 rfl (by decide) _ _ _ rfl S5.out.j _ 1 [.int .i64 k] rfl p0 (by intro u hu; simp at hu; rcases hu with rfl; rfl) (by unfold maxLen; omega) (by omega) (Nat.le_trans hsz1 bal.size) ?_
 intro v' w6 o6 g6 t6
 obtain ⟨A6, c6, rfl⟩ := own_slice o6
 have ch : Chg (fun x => v1.ownBlock = some x) _ w6 := (Chg.of_grown g6).mono (fun x _ hx => hx.symm)
 have S6 := hid (S5.out.job (z := k) (by unfold OwnI; rw [List.length_append, List.length_singleton, cellsI_append]; exact o6) ch (t6.imp id (fun h => ⟨_, h, Nat.le_refl _⟩)))
 have hap7 : v1.ownBlock ≠ some b7 := blk_apart S5.out.j X75.out (by decide)
 have hapg : v1.ownBlock ≠ some g := blk_apart S5.out.j S5.out.blk (by decide)
 have X76 := hid (X75.out.chg ch hap7)
 have BG6 := hid (S5.out.blk.chg ch hapg)
 have S52 : (fun V : World => V.cell? ⟨g, 5, none⟩ = some v1 ∧ V.cell? ⟨b7, 0, none⟩ = some (.int .i64 k)) w6 := ⟨BG6.out.cells 5, X76.out.cells 0⟩
 have k7 : w6.cell? ⟨g, 5, none⟩ = some v1 := S52.1
 have f7 : w6.frozen? ⟨g, 5, none⟩ = false := BG6.out.frozen 5
 refine hK.out _ _ (fun _ => S52) ?_
 clear hK K o6 g6 t6 ch S51 p0
 try simp only [Act.put, List.setIfInBounds_toArray, List.set_cons_zero, List.set_cons_succ]
 refine Last2.last_one (i := 9) (o := { dst := some 21, op := .nilCheck (.tmp 12), type := _, pos := _, after := _, guard := none }) (by kernel_rfl) rfl rfl (fun K hK => ?_)
 go_simp
 refine hK.out _ _ (fun _ => S52) ?_
 clear hK K
 try simp only [Act.put, List.setIfInBounds_toArray, List.set_cons_zero, List.set_cons_succ]
 refine Last2.last_one (i := 10) (o := { dst := some 22, op := .fieldAddr 116 (.tmp 21) 5, type := _, pos := _, after := _, guard := none }) (by kernel_rfl) rfl rfl (fun K hK => ?_)
 go_simp
 refine hK.out _ _ (fun _ => S52) ?_
 clear hK K
 try simp only [Act.put, List.setIfInBounds_toArray, List.set_cons_zero, List.set_cons_succ]
 refine Last2.last_one (i := 11) (o := { dst := none, op := .store 26 (.tmp 22) (.tmp 20), type := _, pos := _, after := _, guard := none }) (by kernel_rfl) rfl rfl (fun K hK => ?_)
 go_simp
 refine hK.out _ _ (fun h => (h (by decide)).elim) ?_
 clear hK K
 try simp only [Act.put, List.setIfInBounds_toArray, List.set_cons_zero, List.set_cons_succ]
 refine Last2.last_done (by kernel_rfl) ?_ _
 have X77 := X76.out.far ⟨g, 5, none⟩ (.slice A6 (s1.jobs.length + 1) c6) hne7
 clear S52 k7 f7 BG6 X76 S5 X75 S4 X7 HO bal
 (try change (fun V => Exit.then _ _ _ _ V) _)
 refine gen_world (X := fun V => Sit W1 g n c A fuel mode { s1 with jobs := s1.jobs ++ [k] } (.slice A6 (s1.jobs.length + 1) c6) v2 v3 V ∧ Blk V b7 56 #[.int .i64 k, .int .i64 v, .slice A2 N c2, .int .i64 sp]) ⟨S6.out, X77⟩ ?_
 clear X77 S6
 rintro U ⟨q1, q2⟩
 obtain ⟨cd, hcd⟩ : ∃ cd, s1.code = cd := ⟨_, rfl⟩
 have S4 := hid q1
 have X7 := hid q2
 have HCD := hid hcd
 clear q1 q2
 have HO := hid (fun (V : World) (b : Below U.heap.size U V) => (show (fun V : World => V.cell? ⟨g, 4, none⟩ = some (.int .i64 cd) ∧ (∀ o, V.cell? ⟨b7, o, none⟩ = (#[.int .i64 k, .int .i64 v, .slice A2 N c2, .int .i64 sp] : Array Value)[o]?)) V from ⟨by rw [← HCD.out]; exact (S4.out.blk.below b S4.out.blk.lt).cells 4, (X7.out.below b X7.out.lt).cells⟩))
 have S50 := HO.out U.drew (Below.refl _ _).drew
 clear hcd
 go_wp2_with fail
 refine Last2.region_last [10] (fun V : World => V.cell? ⟨g, 4, none⟩ = some (.int .i64 cd) ∧ (∀ o, V.cell? ⟨b7, o, none⟩ = (#[.int .i64 k, .int .i64 v, .slice A2 N c2, .int .i64 sp] : Array Value)[o]?)) (by kernel_rfl) ?_
 refine Last2.last_take (i := 0) (d := some 23) (v := .pointer (some ⟨g, 0, none⟩)) rfl rfl (by kernel_rfl) (by kernel_rfl) (by kernel_rfl) (fun _ _ _ h => h) rfl (by kernel_rfl) (by kernel_rfl) rfl ?_ S50 ?_
 ·(intro V hV; (try dsimp only at hV); go_simp; try with_reducible rfl)
 simp only [Act.put, List.setIfInBounds_toArray, List.set_cons_zero, List.set_cons_succ]
 refine Last2.last_take (i := 1) (d := some 24) (v := .pointer (some ⟨g, 0, none⟩)) rfl rfl (by kernel_rfl) (by kernel_rfl) (by kernel_rfl) (fun _ _ _ h => h) rfl (by kernel_rfl) (by kernel_rfl) rfl ?_ S50 ?_
 ·(intro V hV; (try dsimp only at hV); go_simp; try with_reducible rfl)
 simp only [Act.put, List.setIfInBounds_toArray, List.set_cons_zero, List.set_cons_succ]
 refine Last2.last_take (i := 2) (d := some 25) (v := .pointer (some ⟨g, 0, none⟩)) rfl rfl (by kernel_rfl) (by kernel_rfl) (by kernel_rfl) (fun _ _ _ h => h) rfl (by kernel_rfl) (by kernel_rfl) rfl ?_ S50 ?_
 ·(intro V hV; (try dsimp only at hV); go_simp; try with_reducible rfl)
 simp only [Act.put, List.setIfInBounds_toArray, List.set_cons_zero, List.set_cons_succ]
 refine Last2.last_take (i := 3) (d := some 26) (v := .pointer (some ⟨g, 4, none⟩)) rfl rfl (by kernel_rfl) (by kernel_rfl) (by kernel_rfl) (fun _ _ _ h => h) rfl (by kernel_rfl) (by kernel_rfl) rfl ?_ S50 ?_
 ·(intro V hV; (try dsimp only at hV); go_simp; try with_reducible rfl)
 simp only [Act.put, List.setIfInBounds_toArray, List.set_cons_zero, List.set_cons_succ]
 refine Last2.last_take (i := 4) (d := some 27) (v := .int .i64 cd) rfl rfl (by kernel_rfl) (by kernel_rfl) (by kernel_rfl) (fun _ _ _ h => h) rfl (by kernel_rfl) (by kernel_rfl) rfl ?_ S50 ?_
 ·(intro V hV; (try dsimp only at hV); go_simp; try with_reducible rfl)
 simp only [Act.put, List.setIfInBounds_toArray, List.set_cons_zero, List.set_cons_succ]
 refine Last2.last_take (i := 5) (d := some 28) (v := .agg #[.int .i64 k, .int .i64 v, .slice A2 N c2, .int .i64 sp]) rfl rfl (by kernel_rfl) (by kernel_rfl) (by kernel_rfl) (fun _ _ _ h => h) rfl (by kernel_rfl) (by kernel_rfl) rfl ?_ S50 ?_
 ·(intro V hV; (try dsimp only at hV); go_simp; try with_reducible rfl)
 simp only [Act.put, List.setIfInBounds_toArray, List.set_cons_zero, List.set_cons_succ]
 refine Last2.last_one (i := 6) (o := { dst := some 29, op := .call { callee := .value (.func 73), args := #[.tmp 28], argTypes := #[56] }, type := _, pos := _, after := _, guard := none }) (by kernel_rfl) rfl rfl (fun K hK => ?_)
 go_simp
 refine (hco.out A2 c2 _).mono ?_
 rintro e w5 ⟨rfl, b5⟩
 have b5' : Below U.heap.size U w5 := (Below.refl _ _).drew.trans b5
 have S51 := HO.out w5 b5'
 refine hK.out _ _ (fun _ => S51) ?_
 clear hK K b5 S50
 try simp only [Act.put, List.setIfInBounds_toArray, List.set_cons_zero, List.set_cons_succ]
 have S5 := hid (S4.out.below b5')
 have X75 := hid (X7.out.below b5' X7.out.lt)
 refine Last2.last_one (i := 7) (o := { dst := some 30, op := .call { callee := .builtin .max, args := #[.tmp 27, .tmp 29], argTypes := #[3, 3] }, type := _, pos := _, after := _, guard := none }) (by kernel_rfl) rfl rfl (fun K hK => ?_)
 go_simp
 generalize hm : (if cd < q then q else cd) = m
 refine hK.out _ _ (fun _ => S51) ?_
 clear hK K
 try simp only [Act.put, List.setIfInBounds_toArray, List.set_cons_zero, List.set_cons_succ]
 have hmax : max cd q = m := by rw [← hm]; split <;> omega
 have HMX := hid hmax
 clear hm hmax
 refine Last2.last_one (i := 8) (o := { dst := some 31, op := .nilCheck (.tmp 23), type := _, pos := _, after := _, guard := none }) (by kernel_rfl) rfl rfl (fun K hK => ?_)
 go_simp
 refine hK.out _ _ (fun _ => S51) ?_
 clear hK K
 try simp only [Act.put, List.setIfInBounds_toArray, List.set_cons_zero, List.set_cons_succ]
 refine Last2.last_one (i := 9) (o := { dst := some 32, op := .fieldAddr 116 (.tmp 31) 4, type := _, pos := _, after := _, guard := none }) (by kernel_rfl) rfl rfl (fun K hK => ?_)
 go_simp
 refine hK.out _ _ (fun _ => S51) ?_
 clear hK K
 try simp only [Act.put, List.setIfInBounds_toArray, List.set_cons_zero, List.set_cons_succ]
 have k4 := S51.1
 have f4 : w5.frozen? ⟨g, 4, none⟩ = false := S5.out.blk.frozen 4
 refine Last2.last_one (i := 10) (o := { dst := none, op := .store 3 (.tmp 32) (.tmp 30), type := _, pos := _, after := _, guard := none }) (by kernel_rfl) rfl rfl (fun K hK => ?_)
 go_simp
 refine hK.out _ _ (fun h => (h (by decide)).elim) ?_
 clear hK K
 try simp only [Act.put, List.setIfInBounds_toArray, List.set_cons_zero, List.set_cons_succ]
 refine Last2.last_done (by kernel_rfl) ?_ _
 have X77 := X75.out.far ⟨g, 4, none⟩ (.int .i64 m) hne7
 have S7 := hid (S5.out.coded m)
 clear S51 k4 f4 X75 S5 S4 X7 HO b5'
 (try change (fun V => Exit.then _ _ _ _ V) _)
 refine gen_world (X := fun V => Sit W1 g n c A fuel mode { { s1 with jobs := s1.jobs ++ [k] } with code := m } (.slice A6 (s1.jobs.length + 1) c6) v2 v3 V ∧ Blk V b7 56 #[.int .i64 k, .int .i64 v, .slice A2 N c2, .int .i64 sp]) ⟨S7.out, X77⟩ ?_
 clear X77 S7
 rintro U ⟨q1, q2⟩
 have z7 : U.cell? ⟨b7, 0, none⟩ = some (.int .i64 k) := q2.cells 0
 have SF := hid q1
 clear q1 q2
 go_wp2_with fail
 go_ret
 rw [HQ.out, HCD.out, HMX.out]
 exact ⟨rfl, _, _, SF.out⟩
set_option maxRecDepth 100000 in
set_option maxHeartbeats 8000000 in
theorem runHook_any {w0 W1 : World} {g lo0 n c : Nat} {A : Option Addr} {p : Pg} (E : Env w0 W1 g lo0 n c A p) (fuel mode x : Int) (s : Sen) (v1 v2 v3 : Value) (ha : asks p x s.code fuel = true) (hw : WfS 12 12 s) (W : World) (h : Sit W1 g n c A fuel mode s v1 v2 v3 W) :
  Calls Try.prog 131 #[.pointer (some ⟨g, 0, none⟩), .int .i64 x] W fun e W' => ∃ v2' v3', e = .returned (.tuple #[]) ∧ Sit W1 g n c A fuel mode (hookS p fuel mode s x) v1 v2' v3' W' := by
 obtain ⟨i0, hi, hz0, hz1, hz2⟩ := info_parts Sit.info3
 have hru0 := fun W (h : Sit W1 g n c A fuel mode s v1 v2 v3 W) => sitRun_any E fuel mode x s.code s v1 v2 v3 ha hw W h
 have hjl : (oneS p fuel mode s x s.code).hooks.length ≤ 12 := hw.hooks
 have hkd : 1 ≤ (oneR p fuel mode s x s.code).kind ∧ (oneR p fuel mode s x s.code).kind ≤ 4 := frm_kind ha
 have hvl : N16 (oneR p fuel mode s x s.code).value := by have hf := frm_wf ha (sharedAt_n (mode := mode) hw.shared); exact told_value hf.1 hf.2
 have HJ := hid (show hookS p fuel mode s x = { oneS p fuel mode s x s.code with hooks := (oneS p fuel mode s x s.code).hooks ++ [(oneR p fuel mode s x s.code).kind], code := if (oneR p fuel mode s x s.code).kind = 1 then (oneS p fuel mode s x s.code).code else max (oneS p fuel mode s x s.code).code (codeO (oneR p fuel mode s x s.code)) } from rfl)
 have HC0 := hid (show (oneS p fuel mode s x s.code).code = s.code from rfl)
 generalize oneS p fuel mode s x s.code = s1 at *
 generalize oneR p fuel mode s x s.code = oc at *
 obtain ⟨k, v, t, sp⟩ := oc
 dsimp only at hkd hvl HJ
 obtain ⟨N, hN⟩ : ∃ N, t.length = N := ⟨_, rfl⟩
 unfold RunV outval at hru0
 dsimp only at hru0
 rw [hN] at hru0
 have hru := hid hru0
 obtain ⟨q, hq⟩ : ∃ q, codeO { kind := k, value := v, trace := t, spent := sp } = q := ⟨_, rfl⟩
 have hco0 := fun A2 c2 W => codeOf_any A2 N c2 t k v sp hkd hvl W
 rw [hq] at hco0
 have hco := hid hco0
 have HQ := hid hq
 clear hco0 hq
 have H1 := hid h
 have zc4 : W.cell? ⟨g, 4, none⟩ = some (.int .i64 s.code) := h.blk.cells 4
 rw [HJ.out]
 clear hru0 hN ha hw E h hvl hkd
 go_enter Try.func131, Try.ntmps131
 go_wp2_with fail
 refine (hru.out _ H1.out).mono ?_
 rintro e W2 ⟨A2, c2, v3', rfl, hs2⟩
 have S2 := hid hs2
 clear hs2 hru H1 zc4
 go_upto_region 1 with fail
 change (fun V => Code.wp _ _ _ _ V) _
 refine gen_world (X := fun V => Sit W1 g n c A fuel mode s1 v1 v2 v3' V ∧ Blk V W2.heap.size 56 #[.int .i64 k, .int .i64 v, .slice A2 N c2, .int .i64 sp]) ⟨S2.out.below ((Below.refl _ _).alloc (Nat.le_refl _) _), heap1_0 W2 _⟩ ?_
 clear S2
 generalize W2.heap.size = b7
 generalize v3' = v3
 rintro V ⟨q1, q2⟩
 have hne7 : b7 ≠ g := Frs.ne_blkF q2 q1.blk (by decide)
 have S4 := hid q1
 have X7 := hid q2
 clear q1 q2
 have hsz1 : W1.heap.size ≤ V.heap.size := S4.out.chg.size
 have HO := hid (fun (U : World) (b : Below V.heap.size V U) => (show (fun V : World => V.cell? ⟨g, 6, none⟩ = some v2 ∧ V.cell? ⟨b7, 0, none⟩ = some (.int .i64 k)) U from ⟨(S4.out.blk.below b S4.out.blk.lt).cells 6, (X7.out.below b X7.out.lt).cells 0⟩))
 have S50 := HO.out V.drew (Below.refl _ _).drew
 go_wp2_with fail
 refine Last2.region_last [11] (fun V : World => V.cell? ⟨g, 6, none⟩ = some v2 ∧ V.cell? ⟨b7, 0, none⟩ = some (.int .i64 k)) (by kernel_rfl) ?_
 refine Last2.last_take (i := 0) (d := some 12) (v := .pointer (some ⟨g, 0, none⟩)) rfl rfl (by kernel_rfl) (by kernel_rfl) (by kernel_rfl) (fun _ _ _ h => h) rfl (by kernel_rfl) (by kernel_rfl) rfl ?_ S50 ?_
 ·(intro V hV; (try dsimp only at hV); go_simp; try with_reducible rfl)
 simp only [Act.put, List.setIfInBounds_toArray, List.set_cons_zero, List.set_cons_succ]
 refine Last2.last_take (i := 1) (d := some 13) (v := .pointer (some ⟨g, 0, none⟩)) rfl rfl (by kernel_rfl) (by kernel_rfl) (by kernel_rfl) (fun _ _ _ h => h) rfl (by kernel_rfl) (by kernel_rfl) rfl ?_ S50 ?_
 ·(intro V hV; (try dsimp only at hV); go_simp; try with_reducible rfl)
 simp only [Act.put, List.setIfInBounds_toArray, List.set_cons_zero, List.set_cons_succ]
 refine Last2.last_take (i := 2) (d := some 14) (v := .pointer (some ⟨g, 0, none⟩)) rfl rfl (by kernel_rfl) (by kernel_rfl) (by kernel_rfl) (fun _ _ _ h => h) rfl (by kernel_rfl) (by kernel_rfl) rfl ?_ S50 ?_
 ·(intro V hV; (try dsimp only at hV); go_simp; try with_reducible rfl)
 simp only [Act.put, List.setIfInBounds_toArray, List.set_cons_zero, List.set_cons_succ]
 refine Last2.last_take (i := 3) (d := some 15) (v := .pointer (some ⟨g, 6, none⟩)) rfl rfl (by kernel_rfl) (by kernel_rfl) (by kernel_rfl) (fun _ _ _ h => h) rfl (by kernel_rfl) (by kernel_rfl) rfl ?_ S50 ?_
 ·(intro V hV; (try dsimp only at hV); go_simp; try with_reducible rfl)
 simp only [Act.put, List.setIfInBounds_toArray, List.set_cons_zero, List.set_cons_succ]
 refine Last2.last_take (i := 4) (d := some 16) (v := v2) rfl rfl (by kernel_rfl) (by kernel_rfl) (by kernel_rfl) (fun _ _ _ h => h) rfl (by kernel_rfl) (by kernel_rfl) rfl ?_ S50 ?_
 ·(intro V hV; (try dsimp only at hV); go_simp; try with_reducible rfl)
 simp only [Act.put, List.setIfInBounds_toArray, List.set_cons_zero, List.set_cons_succ]
 refine Last2.last_take (i := 5) (d := some 17) (v := .pointer (some ⟨b7, 0, none⟩)) rfl rfl (by kernel_rfl) (by kernel_rfl) (by kernel_rfl) (fun _ _ _ h => h) rfl (by kernel_rfl) (by kernel_rfl) rfl ?_ S50 ?_
 ·(intro V hV; (try dsimp only at hV); go_simp; try with_reducible rfl)
 simp only [Act.put, List.setIfInBounds_toArray, List.set_cons_zero, List.set_cons_succ]
 refine Last2.last_take (i := 6) (d := some 18) (v := .int .i64 k) rfl rfl (by kernel_rfl) (by kernel_rfl) (by kernel_rfl) (fun _ _ _ h => h) rfl (by kernel_rfl) (by kernel_rfl) rfl ?_ S50 ?_
 ·(intro V hV; (try dsimp only at hV); go_simp; try with_reducible rfl)
 simp only [Act.put, List.setIfInBounds_toArray, List.set_cons_zero, List.set_cons_succ]
 refine Last2.last_one (i := 7) (o := { dst := some 19, op := .buildSlice 26 1 #[(0, .tmp 18)], type := _, pos := _, after := _, guard := none }) (by kernel_rfl) rfl rfl (fun K hK => ?_)
 go_simp
 have bal : Below V.heap.size V (V.drew.alloc (.cells #[.int .i64 k] 3)) := (Below.refl _ _).drew.alloc (Nat.le_refl _) _
 have S51 := HO.out _ bal
 refine hK.out _ _ (fun _ => S51) ?_
 clear hK K S50
 try simp only [Act.put, List.setIfInBounds_toArray, List.set_cons_zero, List.set_cons_succ]
 have S5 := hid (S4.out.below bal)
 have X75 := hid (X7.out.below bal X7.out.lt)
 have p0 := App.one_own (heap1_0 V.drew (.cells #[.int .i64 k] 3))
 refine Last2.last_one (i := 8) (o := { dst := some 20, op := .call { callee := .builtin .append, args := #[.tmp 16, .tmp 19], argTypes := #[26, 26] }, type := _, pos := _, after := _, guard := none }) (by kernel_rfl) rfl rfl (fun K hK => ?_)
 refine App.row_wp _ (.tmp 16) (.tmp 19) 26 rfl W1.heap.size 0 3 i0 _ 1 8 Try.underlying26 hi hz0 hz1 hz2 rfl (by decide) _ _ _ rfl S5.out.h _ 1 [.int .i64 k] rfl p0 (by intro u hu; simp at hu; rcases hu with rfl; rfl) (by unfold maxLen; omega) (by omega) (Nat.le_trans hsz1 bal.size) ?_
 intro v' w6 o6 g6 t6
 obtain ⟨A6, c6, rfl⟩ := own_slice o6
 have ch : Chg (fun x => v2.ownBlock = some x) _ w6 := (Chg.of_grown g6).mono (fun x _ hx => hx.symm)
 have S6 := hid (S5.out.hook (z := k) (by unfold OwnI; rw [List.length_append, List.length_singleton, cellsI_append]; exact o6) ch (t6.imp id (fun h => ⟨_, h, Nat.le_refl _⟩)))
 have hap7 : v2.ownBlock ≠ some b7 := blk_apart S5.out.h X75.out (by decide)
 have hapg : v2.ownBlock ≠ some g := blk_apart S5.out.h S5.out.blk (by decide)
 have X76 := hid (X75.out.chg ch hap7)
 have BG6 := hid (S5.out.blk.chg ch hapg)
 have S52 : (fun V : World => V.cell? ⟨g, 6, none⟩ = some v2 ∧ V.cell? ⟨b7, 0, none⟩ = some (.int .i64 k)) w6 := ⟨BG6.out.cells 6, X76.out.cells 0⟩
 have k7 : w6.cell? ⟨g, 6, none⟩ = some v2 := S52.1
 have f7 : w6.frozen? ⟨g, 6, none⟩ = false := BG6.out.frozen 6
 refine hK.out _ _ (fun _ => S52) ?_
 clear hK K o6 g6 t6 ch S51 p0
 try simp only [Act.put, List.setIfInBounds_toArray, List.set_cons_zero, List.set_cons_succ]
 refine Last2.last_one (i := 9) (o := { dst := some 21, op := .nilCheck (.tmp 12), type := _, pos := _, after := _, guard := none }) (by kernel_rfl) rfl rfl (fun K hK => ?_)
 go_simp
 refine hK.out _ _ (fun _ => S52) ?_
 clear hK K
 try simp only [Act.put, List.setIfInBounds_toArray, List.set_cons_zero, List.set_cons_succ]
 refine Last2.last_one (i := 10) (o := { dst := some 22, op := .fieldAddr 116 (.tmp 21) 6, type := _, pos := _, after := _, guard := none }) (by kernel_rfl) rfl rfl (fun K hK => ?_)
 go_simp
 refine hK.out _ _ (fun _ => S52) ?_
 clear hK K
 try simp only [Act.put, List.setIfInBounds_toArray, List.set_cons_zero, List.set_cons_succ]
 refine Last2.last_one (i := 11) (o := { dst := none, op := .store 26 (.tmp 22) (.tmp 20), type := _, pos := _, after := _, guard := none }) (by kernel_rfl) rfl rfl (fun K hK => ?_)
 go_simp
 refine hK.out _ _ (fun h => (h (by decide)).elim) ?_
 clear hK K
 try simp only [Act.put, List.setIfInBounds_toArray, List.set_cons_zero, List.set_cons_succ]
 refine Last2.last_done (by kernel_rfl) ?_ _
 have X77 := X76.out.far ⟨g, 6, none⟩ (.slice A6 (s1.hooks.length + 1) c6) hne7
 clear S52 k7 f7 BG6 X76 S5 X75 S4 X7 HO bal
 (try change (fun V => Exit.then _ _ _ _ V) _)
 refine gen_world (X := fun V => Sit W1 g n c A fuel mode { s1 with hooks := s1.hooks ++ [k] } v1 (.slice A6 (s1.hooks.length + 1) c6) v3 V ∧ Blk V b7 56 #[.int .i64 k, .int .i64 v, .slice A2 N c2, .int .i64 sp]) ⟨S6.out, X77⟩ ?_
 clear X77 S6
 rintro U ⟨q1, q2⟩
 have z7 : U.cell? ⟨b7, 0, none⟩ = some (.int .i64 k) := q2.cells 0
 by_cases k1 : k = 1
 ·subst k1
  have SF := hid q1
  clear q1 q2
  go_wp2_with fail
  go_end0
  try rw [if_pos rfl]
  exact ⟨rfl, _, _, SF.out⟩
 ·have K1 := hid k1
  have kb : (k == 1) = false := by simpa using k1
  clear k1
  obtain ⟨cd, hcd⟩ : ∃ cd, s1.code = cd := ⟨_, rfl⟩
  have S4 := hid q1
  have X7 := hid q2
  have HCD := hid hcd
  clear q1 q2
  have HO := hid (fun (V : World) (b : Below U.heap.size U V) => (show (fun V : World => V.cell? ⟨g, 4, none⟩ = some (.int .i64 cd) ∧ (∀ o, V.cell? ⟨b7, o, none⟩ = (#[.int .i64 k, .int .i64 v, .slice A2 N c2, .int .i64 sp] : Array Value)[o]?)) V from ⟨by rw [← HCD.out]; exact (S4.out.blk.below b S4.out.blk.lt).cells 4, (X7.out.below b X7.out.lt).cells⟩))
  have S50 := HO.out U.drew (Below.refl _ _).drew
  clear hcd
  go_wp2_with fail
  refine Last2.region_last [10] (fun V : World => V.cell? ⟨g, 4, none⟩ = some (.int .i64 cd) ∧ (∀ o, V.cell? ⟨b7, o, none⟩ = (#[.int .i64 k, .int .i64 v, .slice A2 N c2, .int .i64 sp] : Array Value)[o]?)) (by kernel_rfl) ?_
  refine Last2.last_take (i := 0) (d := some 26) (v := .pointer (some ⟨g, 0, none⟩)) rfl rfl (by kernel_rfl) (by kernel_rfl) (by kernel_rfl) (fun _ _ _ h => h) rfl (by kernel_rfl) (by kernel_rfl) rfl ?_ S50 ?_
  ·(intro V hV; (try dsimp only at hV); go_simp; try with_reducible rfl)
  simp only [Act.put, List.setIfInBounds_toArray, List.set_cons_zero, List.set_cons_succ]
  refine Last2.last_take (i := 1) (d := some 27) (v := .pointer (some ⟨g, 0, none⟩)) rfl rfl (by kernel_rfl) (by kernel_rfl) (by kernel_rfl) (fun _ _ _ h => h) rfl (by kernel_rfl) (by kernel_rfl) rfl ?_ S50 ?_
  ·(intro V hV; (try dsimp only at hV); go_simp; try with_reducible rfl)
  simp only [Act.put, List.setIfInBounds_toArray, List.set_cons_zero, List.set_cons_succ]
  refine Last2.last_take (i := 2) (d := some 28) (v := .pointer (some ⟨g, 0, none⟩)) rfl rfl (by kernel_rfl) (by kernel_rfl) (by kernel_rfl) (fun _ _ _ h => h) rfl (by kernel_rfl) (by kernel_rfl) rfl ?_ S50 ?_
  ·(intro V hV; (try dsimp only at hV); go_simp; try with_reducible rfl)
  simp only [Act.put, List.setIfInBounds_toArray, List.set_cons_zero, List.set_cons_succ]
  refine Last2.last_take (i := 3) (d := some 29) (v := .pointer (some ⟨g, 4, none⟩)) rfl rfl (by kernel_rfl) (by kernel_rfl) (by kernel_rfl) (fun _ _ _ h => h) rfl (by kernel_rfl) (by kernel_rfl) rfl ?_ S50 ?_
  ·(intro V hV; (try dsimp only at hV); go_simp; try with_reducible rfl)
  simp only [Act.put, List.setIfInBounds_toArray, List.set_cons_zero, List.set_cons_succ]
  refine Last2.last_take (i := 4) (d := some 30) (v := .int .i64 cd) rfl rfl (by kernel_rfl) (by kernel_rfl) (by kernel_rfl) (fun _ _ _ h => h) rfl (by kernel_rfl) (by kernel_rfl) rfl ?_ S50 ?_
  ·(intro V hV; (try dsimp only at hV); go_simp; try with_reducible rfl)
  simp only [Act.put, List.setIfInBounds_toArray, List.set_cons_zero, List.set_cons_succ]
  refine Last2.last_take (i := 5) (d := some 31) (v := .agg #[.int .i64 k, .int .i64 v, .slice A2 N c2, .int .i64 sp]) rfl rfl (by kernel_rfl) (by kernel_rfl) (by kernel_rfl) (fun _ _ _ h => h) rfl (by kernel_rfl) (by kernel_rfl) rfl ?_ S50 ?_
  ·(intro V hV; (try dsimp only at hV); go_simp; try with_reducible rfl)
  simp only [Act.put, List.setIfInBounds_toArray, List.set_cons_zero, List.set_cons_succ]
  refine Last2.last_one (i := 6) (o := { dst := some 32, op := .call { callee := .value (.func 73), args := #[.tmp 31], argTypes := #[56] }, type := _, pos := _, after := _, guard := none }) (by kernel_rfl) rfl rfl (fun K hK => ?_)
  go_simp
  refine (hco.out A2 c2 _).mono ?_
  rintro e w5 ⟨rfl, b5⟩
  have b5' : Below U.heap.size U w5 := (Below.refl _ _).drew.trans b5
  have S51 := HO.out w5 b5'
  refine hK.out _ _ (fun _ => S51) ?_
  clear hK K b5 S50
  try simp only [Act.put, List.setIfInBounds_toArray, List.set_cons_zero, List.set_cons_succ]
  have S5 := hid (S4.out.below b5')
  have X75 := hid (X7.out.below b5' X7.out.lt)
  refine Last2.last_one (i := 7) (o := { dst := some 33, op := .call { callee := .builtin .max, args := #[.tmp 30, .tmp 32], argTypes := #[3, 3] }, type := _, pos := _, after := _, guard := none }) (by kernel_rfl) rfl rfl (fun K hK => ?_)
  go_simp
  generalize hm : (if cd < q then q else cd) = m
  refine hK.out _ _ (fun _ => S51) ?_
  clear hK K
  try simp only [Act.put, List.setIfInBounds_toArray, List.set_cons_zero, List.set_cons_succ]
  have hmax : max cd q = m := by rw [← hm]; split <;> omega
  have HMX := hid hmax
  clear hm hmax
  refine Last2.last_one (i := 8) (o := { dst := some 34, op := .nilCheck (.tmp 26), type := _, pos := _, after := _, guard := none }) (by kernel_rfl) rfl rfl (fun K hK => ?_)
  go_simp
  refine hK.out _ _ (fun _ => S51) ?_
  clear hK K
  try simp only [Act.put, List.setIfInBounds_toArray, List.set_cons_zero, List.set_cons_succ]
  refine Last2.last_one (i := 9) (o := { dst := some 35, op := .fieldAddr 116 (.tmp 34) 4, type := _, pos := _, after := _, guard := none }) (by kernel_rfl) rfl rfl (fun K hK => ?_)
  go_simp
  refine hK.out _ _ (fun _ => S51) ?_
  clear hK K
  try simp only [Act.put, List.setIfInBounds_toArray, List.set_cons_zero, List.set_cons_succ]
  have k4 := S51.1
  have f4 : w5.frozen? ⟨g, 4, none⟩ = false := S5.out.blk.frozen 4
  refine Last2.last_one (i := 10) (o := { dst := none, op := .store 3 (.tmp 35) (.tmp 33), type := _, pos := _, after := _, guard := none }) (by kernel_rfl) rfl rfl (fun K hK => ?_)
  go_simp
  refine hK.out _ _ (fun h => (h (by decide)).elim) ?_
  clear hK K
  try simp only [Act.put, List.setIfInBounds_toArray, List.set_cons_zero, List.set_cons_succ]
  refine Last2.last_done (by kernel_rfl) ?_ _
  have X77 := X75.out.far ⟨g, 4, none⟩ (.int .i64 m) hne7
  have S7 := hid (S5.out.coded m)
  clear S51 k4 f4 X75 S5 S4 X7 HO b5'
  (try change (fun V => Exit.then _ _ _ _ V) _)
  refine gen_world (X := fun V => Sit W1 g n c A fuel mode { { s1 with hooks := s1.hooks ++ [k] } with code := m } v1 (.slice A6 (s1.hooks.length + 1) c6) v3 V ∧ Blk V b7 56 #[.int .i64 k, .int .i64 v, .slice A2 N c2, .int .i64 sp]) ⟨S7.out, X77⟩ ?_
  clear X77 S7
  rintro U ⟨q1, q2⟩
  have SF := hid q1
  clear q1 q2
  go_wp2_with fail
  go_end0
  rw [HQ.out, HCD.out, HMX.out]
  exact ⟨rfl, _, _, SF.out⟩
end Go.Proofs.Ythejnpignlhgiaa.Siu
-- squeezed
