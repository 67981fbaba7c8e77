import Derived.Test.YtdmcgkcpclepfaaSet
import Derived.Test.YtdmcgkcpclepfaaInts
import Derived.Test.YtdmcgkcpclepfaaLast
import Derived.Test.YtdmcgkcpclepfaaApp0
import Derived.Deep.DeepCutAuto
import Derived.BigRegion
set_option linter.all false
namespace Go.Proofs.Ytdmcgkcpclepfaa.SetM
open Lib (hid)
open Go.ChangeShapes Go.WideShapes Go.ChangeAt Go.RowKit
open PL Mem IntsP
theorem own_shrink {w : World} {B e n g c : Nat} {xs : List Int} (h : w.ownsRow B e 1 (.slice (some ⟨g, 0, none⟩) n c) n (cellsI xs)) (k : Nat) (hk : k ≤ n) : w.ownsRow B e 1 (.slice (some ⟨g, 0, none⟩) k c) k (cellsI (xs.take k)) := by
 obtain ⟨h1, h2⟩ := h
 rcases h2 with ⟨h0, _⟩ | ⟨g', cap', cur, hv, hg, hh, hn, hcap, hsz, htake⟩
 ·cases h0
 ·cases hv
  have hl : (cellsI xs).length = n := by rw [h1, Nat.mul_one]
  have hl2 : xs.length = n := by rw [← hl, cellsI_length]
  refine ⟨by rw [cellsI_length, List.length_take]; omega, .inr ⟨g, c, cur, rfl, hg, hh, by omega, hcap, hsz, ?_⟩⟩
  rw [Nat.mul_one] at htake ⊢
  have : cur.toList.take k = (cur.toList.take n).take k := by rw [List.take_take, Nat.min_eq_left hk]
  rw [this, htake]
  simp [cellsI, List.map_take]
theorem cap_own {w : World} {B e sz n c : Nat} {A : Option Addr} {xs : List Value} (h : w.ownsRow B e sz (.slice A n c) n xs) : n ≤ c := by
 rcases h.2 with ⟨hv, h0⟩ | ⟨g, cap, cur, hv, _, _, hnc, _⟩
 ·simp only [Value.slice.injEq] at hv
  omega
 ·simp only [Value.slice.injEq, true_and] at hv
  omega
theorem cellsI_one (xs : List Int) : ∀ u ∈ cellsI xs, u.oneCell' = true := by
 intro u hu
 simp only [cellsI, List.mem_map] at hu
 obtain ⟨z, _, rfl⟩ := hu
 rfl
def Reads (w : World) (y : Value) (m : Nat) (ys : List Value) : Prop := ∃ A c, y = .slice A m c ∧ ys.length = m ∧ ((A = none ∧ ys = []) ∨ ∃ ad, A = some ad ∧ ∀ (j : Nat) u, ys[j]? = some u → w.cell? (ad.add j) = some u)
theorem src_wp {P : Program} {w : World} {o : Oper} {a : Act} {K : Act → World → Prop} {Q : Exit → Act → World → Prop} (s x : Operand) (t : TypeId)
  (ho : o.op = .call { callee := .builtin .append, args := #[s, x], argTypes := #[t, t] })
  (base : Nat) (e : TypeId) (i : TypeInfo) (z : Value) (bytes : Nat) (ht : P.underlying t = some (.slice e)) (hi : P.info? e = some i) (hz : i.zero = some z)
  (hsize : i.size = 1) (hby : i.bytes = bytes) (hzs : z.cells.size = 1)
  (v : Value) (n : Nat) (xs : List Value) (hs : a.eval s = v) (hv : w.ownsRow base e 1 v n xs) (y : Value) (m : Nat) (ys : List Value) (hxy : a.eval x = y) (hy : Reads w y m ys) (h1 : ∀ u ∈ ys, u.oneCell' = true)
  (h63 : n + m ≤ maxLen) (hbytes : (n + m) * bytes ≤ 140737488355328) (hbase : base ≤ w.heap.size)
  (h : ∀ v' w', w'.ownsRow base e 1 v' (n + m) (xs ++ ys) → w.grownBy w' v.ownBlock → (v'.ownBlock = v.ownBlock ∨ v'.ownBlock = some w.heap.size) → K (a.put o.dst v') w') : o.wp P a w K Q := by
 obtain ⟨A, c, rfl, hl, hr⟩ := hy
 have hrun : ∃ v' w', (Builtin.append_ #[t, t] o.type #[v, .slice A m c]).run P w = .ok v' w' ∧ w'.ownsRow base e 1 v' (n + m) (xs ++ ys) ∧ w.grownBy w' v.ownBlock ∧ (v'.ownBlock = v.ownBlock ∨ v'.ownBlock = some w.heap.size) := by
  rcases hr with ⟨rfl, rfl⟩ | ⟨ad, rfl, hc⟩
  ·obtain rfl : m = 0 := by simpa using hl.symm
   refine ⟨v, w, ?_, by simpa using hv, World.grownBy.refl w _, .inl rfl⟩
   rcases hv.2 with ⟨rfl, rfl⟩ | ⟨g, cap, cur, rfl, _, _, hcn, _⟩
   ·exact run_append_nothing w t t o.type e i ht hi none 0 0 (Nat.le_refl _) _ (Src.ofNil w ht c)
   ·exact run_append_nothing w t t o.type e i ht hi _ n cap hcn _ (Src.ofNil w ht c)
  ·obtain ⟨v', w', hr, h2, h3, _, h5⟩ := run_append_own_at (P := P) w base t o.type e i z 1 bytes ht hi hz hsize hby hzs (by decide) v n xs hv ad m c ys (by omega) hc h1 h63 hbytes hbase
   exact ⟨v', w', hr, h2, h3, h5⟩
 obtain ⟨v', w', hr, h2, h3, h4⟩ := hrun
 unfold Oper.wp execOp
 simp only [ho, resolve, invoke, builtin, Sem.run_bind, Sem.run_pure, Result.andThen_ok, List.map_toArray, List.map_cons, List.map_nil, hs, hxy, hr]
 exact h v' w' h2 h3 h4
theorem reads_own {w : World} {B e n g c : Nat} {xs : List Value} (h : w.ownsRow B e 1 (.slice (some ⟨g, 0, none⟩) n c) n xs) : Reads w (.slice (some ⟨g, 0, none⟩) n c) n xs := by
 have hl : xs.length = n := by have := h.1; omega
 refine ⟨_, c, rfl, hl, .inr ⟨_, rfl, fun j u hu => ?_⟩⟩
 have hj := (List.getElem?_eq_some_iff.1 hu).1
 rw [add_own]
 exact (h.cellAt j (by omega)).trans hu
theorem reads_take {w V : World} {n k c : Nat} {ad : Addr} {xs : List Int} (hl : xs.length = n) (hk : k ≤ n) (hr : RdI w w.heap.size (some ad) xs) (b : App.Bl w V) : Reads V (.slice (some ad) k c) k (cellsI (xs.take k)) := by
 refine ⟨_, c, rfl, by rw [cellsI_length, List.length_take]; omega, .inr ⟨ad, rfl, fun j u hu => ?_⟩⟩
 have hj := (List.getElem?_eq_some_iff.1 hu).1
 rw [cellsI_length, List.length_take] at hj
 obtain ⟨z, hz⟩ : ∃ z, xs[j]? = some z := ⟨_, List.getElem?_eq_getElem (by omega)⟩
 obtain ⟨a', e, hb, h0⟩ := hr.below b j z hz
 cases e
 rw [cellsI_at _ j z (by rw [List.getElem?_take_of_lt (by omega)]; exact hz)] at hu
 exact h0.trans hu
theorem addr_add (ad : Addr) (a b : Nat) : (ad.add a).add b = ad.add (a + b) := by
 by_cases ha : a = 0 <;> by_cases hb : b = 0 <;> simp [Addr.add, ha, hb, Nat.add_assoc]
theorem reads_drop {w V : World} {n k c : Nat} {ad : Addr} {xs : List Int} (hl : xs.length = n) (hk : k ≤ n) (hc : n ≤ c) (hr : RdI w w.heap.size (some ad) xs) (b : App.Bl w V) : Reads V (.slice (if c = k then some ad else some (ad.add k)) (n - k) (c - k)) (n - k) (cellsI (xs.drop k)) := by
 refine ⟨_, _, rfl, by rw [cellsI_length, List.length_drop]; omega, .inr ?_⟩
 by_cases h : c = k
 ·refine ⟨ad, if_pos h, fun j u hu => ?_⟩
  have hj := (List.getElem?_eq_some_iff.1 hu).1
  rw [cellsI_length, List.length_drop] at hj
  omega
 ·refine ⟨ad.add k, if_neg h, fun j u hu => ?_⟩
  have hj := (List.getElem?_eq_some_iff.1 hu).1
  rw [cellsI_length, List.length_drop] at hj
  obtain ⟨z, hz⟩ : ∃ z, xs[k + j]? = some z := ⟨_, List.getElem?_eq_getElem (by omega)⟩
  obtain ⟨a', e, hb, h0⟩ := hr.below b (k + j) z hz
  cases e
  rw [cellsI_at _ j z (by rw [List.getElem?_drop]; exact hz)] at hu
  rw [addr_add]
  exact h0.trans hu
theorem fin_own {V : World} {v : Value} {B n k lo : Nat} {l : List Int} {x : Int} (hl : l.length = n) (hk : k ≤ n) (hlo : lo ≤ B) (hp : putS l x = l.take k ++ [x] ++ l.drop k) (h : V.ownsRow B 3 1 v (0 + k + 1 + (n - k)) ([] ++ cellsI (l.take k) ++ [.int .i64 x] ++ cellsI (l.drop k))) :
  ∃ A' c', v = .slice A' (putS l x).length c' ∧ OwnI V lo v (putS l x) := by
 have e1 : (putS l x).length = 0 + k + 1 + (n - k) := by rw [hp, List.length_append, List.length_append, List.length_take, List.length_drop, List.length_singleton]; omega
 have e2 : cellsI (putS l x) = [] ++ cellsI (l.take k) ++ [.int .i64 x] ++ cellsI (l.drop k) := by rw [hp, cellsI_append, cellsI_append]; rfl
 obtain ⟨A', c', rfl⟩ := own_slice h
 refine ⟨A', c', by rw [e1], ?_⟩
 unfold OwnI
 rw [e1, e2]
 exact own_mono h hlo
set_option maxRecDepth 100000 in
set_option maxHeartbeats 8000000 in
theorem l1Put_own (lo n c : Nat) (A : Option Addr) (xs : List Int) (x : Int) (hn : n ≤ 1000000) (hl : xs.length = n) (hcn : n ≤ c) (w : World) (ho : w.ownsRow lo 3 1 (.slice A n c) n (cellsI xs)) (hlo : lo ≤ w.heap.size) :
  Calls Try.prog 91 #[.slice A n c, .int .i64 x] w fun e w' => ∃ A' c', e = .returned (.slice A' (putS xs x).length c') ∧ OwnI w' lo (.slice A' (putS xs x).length c') (putS xs x) ∧ Below w.heap.size w w' ∧ (A' = A ∨ OwnI w' w.heap.size (.slice A' (putS xs x).length c') (putS xs x)) := by
 obtain ⟨i0, hi, hz0, hz1, hz2⟩ := info_parts info3
 have HL := hid hl
 have HR := hid (rdI_own ho)
 have HO := hid ho
 have hrel0 : ∀ i z, i < 0 → xs[i]? = some z → z < x := fun i z h => absurd h (Nat.not_lt_zero _)
 clear hl ho
 go_enter Try.func91, Try.ntmps91
 go_wp2_with fail
 go_loopw [5] (fun i wr => ∃ k : Nat, k ≤ n ∧ i = .int .i64 k ∧ w = wr ∧ ∀ i z, i < k → xs[i]? = some z → z < x) (fun i _ => n - (intOf i).toNat)
 case atStart => exact ⟨0, Nat.zero_le _, rfl, rfl, hrel0⟩
 case round =>
  obtain ⟨k, hk, rfl, rfl, hlt⟩ := hrel
  clear hrel0
  have HLT := hid hlt
  clear hlt
  by_cases hkn : k < n
  ·obtain ⟨z, hz⟩ : ∃ z, xs[k]? = some z := ⟨_, List.getElem?_eq_getElem (by rw [HL.out]; exact hkn)⟩
   obtain ⟨ad, rfl, hab, h0⟩ := HR.out k z hz
   have HZ := hid hz
   clear hz
   by_cases hzx : z < x
   ·go_wp2_with fail
    go_roundw
    case rel =>
     refine ⟨k + 1, by omega, by go_num, by first | rfl | trivial, fun i y hi hy => ?_⟩
     rcases Nat.lt_or_ge i k with h | h
     ·exact HLT.out i y h hy
     ·obtain rfl : i = k := by omega
      rw [HZ.out] at hy
      cases hy
      exact hzx
    case measure => simp [intOf]; omega
   ·have HK := hid (show kOf xs x = k from kOf_is (by rw [HL.out]; omega) HLT.out (fun y hy => by rw [HZ.out] at hy; cases hy; omega))
    have hc1 : decide (z < x) = false := by simpa using hzx
    clear HLT
    by_cases hzx2 : z = x
    ·subst hzx2
     have HP := hid (show putS xs z = xs by unfold putS; rw [HK.out, if_pos HZ.out])
     clear HK hzx
     go_wp2_with fail
     go_ret
     exact ⟨some ad, c, by rw [HP.out, HL.out] <;> rfl, by rw [HP.out]; unfold OwnI; rw [HL.out]; exact HO.out, Below.refl _ _, .inl rfl⟩
    ·have hc2 : (z == x) = false := by simpa using hzx2
     have HP := hid (show putS xs x = xs.take k ++ [x] ++ xs.drop k by unfold putS; rw [HK.out, if_neg (by rw [HZ.out]; intro e; cases e; exact hzx2 rfl)])
     clear HK hzx hzx2
     have hkc : k ≤ c := by omega
     have HFIN := hid (fun (V : World) (v : Value) (h : V.ownsRow w.heap.size 3 1 v (0 + k + 1 + (n - k)) ([] ++ cellsI (xs.take k) ++ [.int .i64 x] ++ cellsI (xs.drop k))) => fin_own (l := xs) (x := x) (k := k) (lo := w.heap.size) HL.out hk (Nat.le_refl _) HP.out h)
     obtain ⟨Y1, hY1⟩ : ∃ Y : Value, Y = .slice (some ad) k c := ⟨_, rfl⟩
     obtain ⟨Y2, hY2⟩ : ∃ Y : Value, Y = .slice (if c = k then some ad else some (ad.add k)) (n - k) (c - k) := ⟨_, rfl⟩
     have HR1 := hid (fun (V : World) (b : App.Bl w V) => show Reads V Y1 k (cellsI (xs.take k)) from hY1 ▸ reads_take HL.out hk (HR.out) b)
     have HR2 := hid (fun (V : World) (b : App.Bl w V) => show Reads V Y2 (n - k) (cellsI (xs.drop k)) from hY2 ▸ reads_drop HL.out hk hcn (HR.out) b)
     have HY1 := hid hY1
     have HY2 := hid hY2
     have S0 : (fun _ : World => True) w.drew := trivial
     go_upto_region 6 with fail
     refine Last.region_last 12 (fun _ : World => True) (by kernel_rfl) ?_
     refine Last.last_take (i := 1) (d := some 34) (v := .slice (some ad) n c) rfl rfl (by kernel_rfl) (by kernel_rfl) (by kernel_rfl) (fun _ _ _ h => h) rfl (by kernel_rfl) (by kernel_rfl) rfl ?_ S0 ?_
     ·(intro V hV; go_simp; try with_reducible rfl)
     try simp only [Act.put, List.setIfInBounds_toArray, List.set_cons_zero, List.set_cons_succ]
     refine Last.last_take (i := 2) (d := some 35) (v := .int .i64 (k : Int)) rfl rfl (by kernel_rfl) (by kernel_rfl) (by kernel_rfl) (fun _ _ _ h => h) rfl (by kernel_rfl) (by kernel_rfl) rfl ?_ S0 ?_
     ·(intro V hV; go_simp; try with_reducible rfl)
     try simp only [Act.put, List.setIfInBounds_toArray, List.set_cons_zero, List.set_cons_succ]
     refine Last.last_take (i := 3) (d := some 36) (v := Y1) rfl rfl (by kernel_rfl) (by kernel_rfl) (by kernel_rfl) (fun _ _ _ h => h) rfl (by kernel_rfl) (by kernel_rfl) rfl ?_ S0 ?_
     ·(intro V hV; go_simp; try rw [if_pos hkc, HY1.out]; try with_reducible rfl)
     try simp only [Act.put, List.setIfInBounds_toArray, List.set_cons_zero, List.set_cons_succ]
     refine Last.last_take (i := 5) (d := some 38) (v := .int .i64 x) rfl rfl (by kernel_rfl) (by kernel_rfl) (by kernel_rfl) (fun _ _ _ h => h) rfl (by kernel_rfl) (by kernel_rfl) rfl ?_ S0 ?_
     ·(intro V hV; go_simp; try with_reducible rfl)
     try simp only [Act.put, List.setIfInBounds_toArray, List.set_cons_zero, List.set_cons_succ]
     refine Last.last_take (i := 8) (d := some 41) (v := .slice (some ad) n c) rfl rfl (by kernel_rfl) (by kernel_rfl) (by kernel_rfl) (fun _ _ _ h => h) rfl (by kernel_rfl) (by kernel_rfl) rfl ?_ S0 ?_
     ·(intro V hV; go_simp; try with_reducible rfl)
     try simp only [Act.put, List.setIfInBounds_toArray, List.set_cons_zero, List.set_cons_succ]
     refine Last.last_take (i := 9) (d := some 42) (v := .int .i64 (k : Int)) rfl rfl (by kernel_rfl) (by kernel_rfl) (by kernel_rfl) (fun _ _ _ h => h) rfl (by kernel_rfl) (by kernel_rfl) rfl ?_ S0 ?_
     ·(intro V hV; go_simp; try with_reducible rfl)
     try simp only [Act.put, List.setIfInBounds_toArray, List.set_cons_zero, List.set_cons_succ]
     refine Last.last_take (i := 10) (d := some 43) (v := Y2) rfl rfl (by kernel_rfl) (by kernel_rfl) (by kernel_rfl) (fun _ _ _ h => h) rfl (by kernel_rfl) (by kernel_rfl) rfl ?_ S0 ?_
     ·(intro V hV; go_simp; try rw [HY2.out]; try simp [hkc, hk]; try with_reducible rfl)
     try simp only [Act.put, List.setIfInBounds_toArray, List.set_cons_zero, List.set_cons_succ]
     clear HY1 HY2 hY1 hY2 S0
     refine Last.last_two (i := 0) (j := 6) (oi := { dst := some 33, op := .buildSlice 26 0 #[], type := _, pos := _, after := _, guard := none }) (oj := { dst := some 39, op := .buildSlice 26 1 #[(0, .tmp 38)], type := _, pos := _, after := _, guard := none }) (by kernel_rfl) rfl rfl rfl rfl (fun K hK => ?_) (fun K hK => ?_)
     ·skip
      go_simp
      refine hK.out _ _ (fun _ => trivial) ?_
      clear hK K
      try simp only [Act.put, List.setIfInBounds_toArray, List.set_cons_zero, List.set_cons_succ]
      refine Last.last_two (i := 4) (j := 6) (oi := { dst := some 37, op := .call { callee := .builtin .append, args := #[.tmp 33, .tmp 36], argTypes := #[26, 26] }, type := _, pos := _, after := _, guard := none }) (oj := { dst := some 39, op := .buildSlice 26 1 #[(0, .tmp 38)], type := _, pos := _, after := _, guard := none }) (by kernel_rfl) rfl rfl rfl rfl (fun K hK => ?_) (fun K hK => ?_)
      ·skip
       refine src_wp (.tmp 33) (.tmp 36) 26 rfl w.heap.size 3 i0 _ 8 Try.underlying26 hi hz0 hz1 hz2 rfl (.slice (some ⟨w.heap.size, 0, none⟩) 0 0) 0 _ rfl (App.empty_own (heap1_0 w.drew _) (Nat.le_refl _)) Y1 k (cellsI (xs.take k)) rfl (HR1.out _ (show App.Bl w _ by repeat (first | assumption | refine App.Bl.alloc ?_ _ | refine App.Bl.drew ?_ | exact App.Bl.refl _))) (cellsI_one _) (by unfold maxLen; omega) (by omega) (by first | exact ((show App.Bl w _ by repeat (first | assumption | refine App.Bl.alloc ?_ _ | refine App.Bl.drew ?_ | exact App.Bl.refl _))).size | (simp; done) | (simp; omega)) ?_
       intro v1 w1 o1 g1 t1
       have hB1 : App.Bl w w1 := App.Bl.grown (show App.Bl w _ by repeat (first | assumption | refine App.Bl.alloc ?_ _ | refine App.Bl.drew ?_ | exact App.Bl.refl _)) g1 (fun k hk => Nat.le_trans (by omega) (Nat.le_of_eq (show w.heap.size = k by simpa [Value.ownBlock] using hk)))
       clear g1
       clear t1 
       refine hK.out _ _ (fun _ => trivial) ?_
       clear hK K
       try simp only [Act.put, List.setIfInBounds_toArray, List.set_cons_zero, List.set_cons_succ]
       refine Last.last_one (i := 6) (o := { dst := some 39, op := .buildSlice 26 1 #[(0, .tmp 38)], type := _, pos := _, after := _, guard := none }) (by kernel_rfl) rfl rfl (fun K hK => ?_)
       go_simp
       refine hK.out _ _ (fun _ => trivial) ?_
       clear hK K
       try simp only [Act.put, List.setIfInBounds_toArray, List.set_cons_zero, List.set_cons_succ]
       refine Last.last_one (i := 7) (o := { dst := some 40, op := .call { callee := .builtin .append, args := #[.tmp 37, .tmp 39], argTypes := #[26, 26] }, type := _, pos := _, after := _, guard := none }) (by kernel_rfl) rfl rfl (fun K hK => ?_)
       refine src_wp (.tmp 37) (.tmp 39) 26 rfl w.heap.size 3 i0 _ 8 Try.underlying26 hi hz0 hz1 hz2 rfl _ _ _ rfl (o1.alloc _) (.slice (some ⟨w1.heap.size, 0, none⟩) 1 1) 1 [.int .i64 x] rfl (reads_own (App.one_own (heap1_0 w1 _))) (by intro u hu; simp at hu; rcases hu with rfl; rfl) (by unfold maxLen; omega) (by omega) (by first | exact ((show App.Bl w _ by repeat (first | assumption | refine App.Bl.alloc ?_ _ | refine App.Bl.drew ?_ | exact App.Bl.refl _))).size | (simp; done) | (simp; omega)) ?_
       intro v2 w2 o2 g2 t2
       have hB2 : App.Bl w w2 := App.Bl.grown (show App.Bl w _ by repeat (first | assumption | refine App.Bl.alloc ?_ _ | refine App.Bl.drew ?_ | exact App.Bl.refl _)) g2 (fun k hk => (o1.lt k hk).1)
       clear g2
       clear t2 
       refine hK.out _ _ (fun _ => trivial) ?_
       clear hK K
       try simp only [Act.put, List.setIfInBounds_toArray, List.set_cons_zero, List.set_cons_succ]
       refine Last.last_one (i := 11) (o := { dst := some 44, op := .call { callee := .builtin .append, args := #[.tmp 40, .tmp 43], argTypes := #[26, 26] }, type := _, pos := _, after := _, guard := none }) (by kernel_rfl) rfl rfl (fun K hK => ?_)
       refine src_wp (.tmp 40) (.tmp 43) 26 rfl w.heap.size 3 i0 _ 8 Try.underlying26 hi hz0 hz1 hz2 rfl _ _ _ rfl o2 Y2 (n - k) (cellsI (xs.drop k)) rfl (HR2.out _ (show App.Bl w _ by repeat (first | assumption | refine App.Bl.alloc ?_ _ | refine App.Bl.drew ?_ | exact App.Bl.refl _))) (cellsI_one _) (by unfold maxLen; omega) (by omega) (by first | exact ((show App.Bl w _ by repeat (first | assumption | refine App.Bl.alloc ?_ _ | refine App.Bl.drew ?_ | exact App.Bl.refl _))).size | (simp; done) | (simp; omega)) ?_
       intro v3 w3 o3 g3 t3
       have hB3 : App.Bl w w3 := App.Bl.grown (show App.Bl w _ by repeat (first | assumption | refine App.Bl.alloc ?_ _ | refine App.Bl.drew ?_ | exact App.Bl.refl _)) g3 (fun k hk => (o2.lt k hk).1)
       clear g3
       clear t3 
       refine hK.out _ _ (fun _ => trivial) ?_
       clear hK K
       try simp only [Act.put, List.setIfInBounds_toArray, List.set_cons_zero, List.set_cons_succ]
       refine Last.last_one (i := 12) (o := { dst := some 4, op := .assign (.tmp 44), type := _, pos := _, after := _, guard := none }) (by kernel_rfl) rfl rfl (fun K hK => ?_)
       go_simp
       refine hK.out _ _ (fun h => absurd rfl h) ?_
       clear hK K
       try simp only [Act.put, List.setIfInBounds_toArray, List.set_cons_zero, List.set_cons_succ]
       refine Last.last_done (by kernel_rfl) ?_ _
       go_wp2_with fail
       go_ret
       obtain ⟨A', c', rfl, hf⟩ := HFIN.out w3 _ o3
       exact ⟨A', c', rfl, own_mono hf hlo, hB3, .inr hf⟩
      ·skip
       go_simp
       refine hK.out _ _ (fun _ => trivial) ?_
       clear hK K
       try simp only [Act.put, List.setIfInBounds_toArray, List.set_cons_zero, List.set_cons_succ]
       refine Last.last_one (i := 4) (o := { dst := some 37, op := .call { callee := .builtin .append, args := #[.tmp 33, .tmp 36], argTypes := #[26, 26] }, type := _, pos := _, after := _, guard := none }) (by kernel_rfl) rfl rfl (fun K hK => ?_)
       refine src_wp (.tmp 33) (.tmp 36) 26 rfl w.heap.size 3 i0 _ 8 Try.underlying26 hi hz0 hz1 hz2 rfl (.slice (some ⟨w.heap.size, 0, none⟩) 0 0) 0 _ rfl (App.empty_own (heap2_0 w.drew _ _) (Nat.le_refl _)) Y1 k (cellsI (xs.take k)) rfl (HR1.out _ (show App.Bl w _ by repeat (first | assumption | refine App.Bl.alloc ?_ _ | refine App.Bl.drew ?_ | exact App.Bl.refl _))) (cellsI_one _) (by unfold maxLen; omega) (by omega) (by first | exact ((show App.Bl w _ by repeat (first | assumption | refine App.Bl.alloc ?_ _ | refine App.Bl.drew ?_ | exact App.Bl.refl _))).size | (simp; done) | (simp; omega)) ?_
       intro v1 w1 o1 g1 t1
       have hB1 : App.Bl w w1 := App.Bl.grown (show App.Bl w _ by repeat (first | assumption | refine App.Bl.alloc ?_ _ | refine App.Bl.drew ?_ | exact App.Bl.refl _)) g1 (fun k hk => Nat.le_trans (by omega) (Nat.le_of_eq (show w.heap.size = k by simpa [Value.ownBlock] using hk)))
       have el : w1.ownsRow 0 3 1 (.slice (some ⟨w.heap.size + 1, 0, none⟩) 1 1) 1 [.int .i64 x] := World.ownsRow.kept (w := ((w.drew.alloc (.cells #[] 3)).alloc (.cells #[.int .i64 x] 3))) (App.one_own (heap2_1 w.drew _ _)) g1 (.inr (by simp [Value.ownBlock]))
       clear g1
       clear t1 
       refine hK.out _ _ (fun _ => trivial) ?_
       clear hK K
       try simp only [Act.put, List.setIfInBounds_toArray, List.set_cons_zero, List.set_cons_succ]
       refine Last.last_one (i := 7) (o := { dst := some 40, op := .call { callee := .builtin .append, args := #[.tmp 37, .tmp 39], argTypes := #[26, 26] }, type := _, pos := _, after := _, guard := none }) (by kernel_rfl) rfl rfl (fun K hK => ?_)
       refine src_wp (.tmp 37) (.tmp 39) 26 rfl w.heap.size 3 i0 _ 8 Try.underlying26 hi hz0 hz1 hz2 rfl _ _ _ rfl o1 (.slice (some ⟨w.heap.size + 1, 0, none⟩) 1 1) 1 [.int .i64 x] rfl (reads_own el) (by intro u hu; simp at hu; rcases hu with rfl; rfl) (by unfold maxLen; omega) (by omega) (by first | exact ((show App.Bl w _ by repeat (first | assumption | refine App.Bl.alloc ?_ _ | refine App.Bl.drew ?_ | exact App.Bl.refl _))).size | (simp; done) | (simp; omega)) ?_
       intro v2 w2 o2 g2 t2
       have hB2 : App.Bl w w2 := App.Bl.grown (show App.Bl w _ by repeat (first | assumption | refine App.Bl.alloc ?_ _ | refine App.Bl.drew ?_ | exact App.Bl.refl _)) g2 (fun k hk => (o1.lt k hk).1)
       clear g2
       clear t2 
       refine hK.out _ _ (fun _ => trivial) ?_
       clear hK K
       try simp only [Act.put, List.setIfInBounds_toArray, List.set_cons_zero, List.set_cons_succ]
       refine Last.last_one (i := 11) (o := { dst := some 44, op := .call { callee := .builtin .append, args := #[.tmp 40, .tmp 43], argTypes := #[26, 26] }, type := _, pos := _, after := _, guard := none }) (by kernel_rfl) rfl rfl (fun K hK => ?_)
       refine src_wp (.tmp 40) (.tmp 43) 26 rfl w.heap.size 3 i0 _ 8 Try.underlying26 hi hz0 hz1 hz2 rfl _ _ _ rfl o2 Y2 (n - k) (cellsI (xs.drop k)) rfl (HR2.out _ (show App.Bl w _ by repeat (first | assumption | refine App.Bl.alloc ?_ _ | refine App.Bl.drew ?_ | exact App.Bl.refl _))) (cellsI_one _) (by unfold maxLen; omega) (by omega) (by first | exact ((show App.Bl w _ by repeat (first | assumption | refine App.Bl.alloc ?_ _ | refine App.Bl.drew ?_ | exact App.Bl.refl _))).size | (simp; done) | (simp; omega)) ?_
       intro v3 w3 o3 g3 t3
       have hB3 : App.Bl w w3 := App.Bl.grown (show App.Bl w _ by repeat (first | assumption | refine App.Bl.alloc ?_ _ | refine App.Bl.drew ?_ | exact App.Bl.refl _)) g3 (fun k hk => (o2.lt k hk).1)
       clear g3
       clear t3 
       refine hK.out _ _ (fun _ => trivial) ?_
       clear hK K
       try simp only [Act.put, List.setIfInBounds_toArray, List.set_cons_zero, List.set_cons_succ]
       refine Last.last_one (i := 12) (o := { dst := some 4, op := .assign (.tmp 44), type := _, pos := _, after := _, guard := none }) (by kernel_rfl) rfl rfl (fun K hK => ?_)
       go_simp
       refine hK.out _ _ (fun h => absurd rfl h) ?_
       clear hK K
       try simp only [Act.put, List.setIfInBounds_toArray, List.set_cons_zero, List.set_cons_succ]
       refine Last.last_done (by kernel_rfl) ?_ _
       go_wp2_with fail
       go_ret
       obtain ⟨A', c', rfl, hf⟩ := HFIN.out w3 _ o3
       exact ⟨A', c', rfl, own_mono hf hlo, hB3, .inr hf⟩
     ·skip
      go_simp
      refine hK.out _ _ (fun _ => trivial) ?_
      clear hK K
      try simp only [Act.put, List.setIfInBounds_toArray, List.set_cons_zero, List.set_cons_succ]
      refine Last.last_one (i := 0) (o := { dst := some 33, op := .buildSlice 26 0 #[], type := _, pos := _, after := _, guard := none }) (by kernel_rfl) rfl rfl (fun K hK => ?_)
      go_simp
      refine hK.out _ _ (fun _ => trivial) ?_
      clear hK K
      try simp only [Act.put, List.setIfInBounds_toArray, List.set_cons_zero, List.set_cons_succ]
      refine Last.last_one (i := 4) (o := { dst := some 37, op := .call { callee := .builtin .append, args := #[.tmp 33, .tmp 36], argTypes := #[26, 26] }, type := _, pos := _, after := _, guard := none }) (by kernel_rfl) rfl rfl (fun K hK => ?_)
      refine src_wp (.tmp 33) (.tmp 36) 26 rfl w.heap.size 3 i0 _ 8 Try.underlying26 hi hz0 hz1 hz2 rfl (.slice (some ⟨(w.heap.size + 1), 0, none⟩) 0 0) 0 _ rfl (App.empty_own (heap2_1 w.drew _ _) (Nat.le_succ _)) Y1 k (cellsI (xs.take k)) rfl (HR1.out _ (show App.Bl w _ by repeat (first | assumption | refine App.Bl.alloc ?_ _ | refine App.Bl.drew ?_ | exact App.Bl.refl _))) (cellsI_one _) (by unfold maxLen; omega) (by omega) (by first | exact ((show App.Bl w _ by repeat (first | assumption | refine App.Bl.alloc ?_ _ | refine App.Bl.drew ?_ | exact App.Bl.refl _))).size | (simp; done) | (simp; omega)) ?_
      intro v1 w1 o1 g1 t1
      have hB1 : App.Bl w w1 := App.Bl.grown (show App.Bl w _ by repeat (first | assumption | refine App.Bl.alloc ?_ _ | refine App.Bl.drew ?_ | exact App.Bl.refl _)) g1 (fun k hk => Nat.le_trans (by omega) (Nat.le_of_eq (show (w.heap.size + 1) = k by simpa [Value.ownBlock] using hk)))
      have el : w1.ownsRow 0 3 1 (.slice (some ⟨w.heap.size, 0, none⟩) 1 1) 1 [.int .i64 x] := World.ownsRow.kept (w := ((w.drew.alloc (.cells #[.int .i64 x] 3)).alloc (.cells #[] 3))) (App.one_own (heap2_0 w.drew _ _)) g1 (.inr (by simp [Value.ownBlock]))
      clear g1
      clear t1 
      refine hK.out _ _ (fun _ => trivial) ?_
      clear hK K
      try simp only [Act.put, List.setIfInBounds_toArray, List.set_cons_zero, List.set_cons_succ]
      refine Last.last_one (i := 7) (o := { dst := some 40, op := .call { callee := .builtin .append, args := #[.tmp 37, .tmp 39], argTypes := #[26, 26] }, type := _, pos := _, after := _, guard := none }) (by kernel_rfl) rfl rfl (fun K hK => ?_)
      refine src_wp (.tmp 37) (.tmp 39) 26 rfl w.heap.size 3 i0 _ 8 Try.underlying26 hi hz0 hz1 hz2 rfl _ _ _ rfl o1 (.slice (some ⟨w.heap.size, 0, none⟩) 1 1) 1 [.int .i64 x] rfl (reads_own el) (by intro u hu; simp at hu; rcases hu with rfl; rfl) (by unfold maxLen; omega) (by omega) (by first | exact ((show App.Bl w _ by repeat (first | assumption | refine App.Bl.alloc ?_ _ | refine App.Bl.drew ?_ | exact App.Bl.refl _))).size | (simp; done) | (simp; omega)) ?_
      intro v2 w2 o2 g2 t2
      have hB2 : App.Bl w w2 := App.Bl.grown (show App.Bl w _ by repeat (first | assumption | refine App.Bl.alloc ?_ _ | refine App.Bl.drew ?_ | exact App.Bl.refl _)) g2 (fun k hk => (o1.lt k hk).1)
      clear g2
      clear t2 
      refine hK.out _ _ (fun _ => trivial) ?_
      clear hK K
      try simp only [Act.put, List.setIfInBounds_toArray, List.set_cons_zero, List.set_cons_succ]
      refine Last.last_one (i := 11) (o := { dst := some 44, op := .call { callee := .builtin .append, args := #[.tmp 40, .tmp 43], argTypes := #[26, 26] }, type := _, pos := _, after := _, guard := none }) (by kernel_rfl) rfl rfl (fun K hK => ?_)
      refine src_wp (.tmp 40) (.tmp 43) 26 rfl w.heap.size 3 i0 _ 8 Try.underlying26 hi hz0 hz1 hz2 rfl _ _ _ rfl o2 Y2 (n - k) (cellsI (xs.drop k)) rfl (HR2.out _ (show App.Bl w _ by repeat (first | assumption | refine App.Bl.alloc ?_ _ | refine App.Bl.drew ?_ | exact App.Bl.refl _))) (cellsI_one _) (by unfold maxLen; omega) (by omega) (by first | exact ((show App.Bl w _ by repeat (first | assumption | refine App.Bl.alloc ?_ _ | refine App.Bl.drew ?_ | exact App.Bl.refl _))).size | (simp; done) | (simp; omega)) ?_
      intro v3 w3 o3 g3 t3
      have hB3 : App.Bl w w3 := App.Bl.grown (show App.Bl w _ by repeat (first | assumption | refine App.Bl.alloc ?_ _ | refine App.Bl.drew ?_ | exact App.Bl.refl _)) g3 (fun k hk => (o2.lt k hk).1)
      clear g3
      clear t3 
      refine hK.out _ _ (fun _ => trivial) ?_
      clear hK K
      try simp only [Act.put, List.setIfInBounds_toArray, List.set_cons_zero, List.set_cons_succ]
      refine Last.last_one (i := 12) (o := { dst := some 4, op := .assign (.tmp 44), type := _, pos := _, after := _, guard := none }) (by kernel_rfl) rfl rfl (fun K hK => ?_)
      go_simp
      refine hK.out _ _ (fun h => absurd rfl h) ?_
      clear hK K
      try simp only [Act.put, List.setIfInBounds_toArray, List.set_cons_zero, List.set_cons_succ]
      refine Last.last_done (by kernel_rfl) ?_ _
      go_wp2_with fail
      go_ret
      obtain ⟨A', c', rfl, hf⟩ := HFIN.out w3 _ o3
      exact ⟨A', c', rfl, own_mono hf hlo, hB3, .inr hf⟩
  ·obtain rfl : k = n := by omega
   have HK := hid (show kOf xs x = k from kOf_is (by rw [HL.out]; omega) HLT.out (fun y hy => by have := (List.getElem?_eq_some_iff.1 hy).1; rw [HL.out] at this; omega))
   have HP := hid (show putS xs x = xs.take k ++ [x] ++ xs.drop k by unfold putS; rw [HK.out, if_neg (by rw [List.getElem?_eq_none (by rw [HL.out]; omega)]; intro e; cases e)])
   clear HK HLT
   cases A with
   | some ad =>
    obtain ⟨n, hn'⟩ : ∃ n, k = n := ⟨_, rfl⟩
    rw [hn'] at hcn
    rw [hn'] at HL HO
    have hk : k ≤ n := Nat.le_of_eq hn'
    have hkn : decide (k < n) = false := by simp; omega
    have hkc : k ≤ c := by omega
    have HFIN := hid (fun (V : World) (v : Value) (h : V.ownsRow w.heap.size 3 1 v (0 + k + 1 + (n - k)) ([] ++ cellsI (xs.take k) ++ [.int .i64 x] ++ cellsI (xs.drop k))) => fin_own (l := xs) (x := x) (k := k) (lo := w.heap.size) HL.out hk (Nat.le_refl _) HP.out h)
    obtain ⟨Y1, hY1⟩ : ∃ Y : Value, Y = .slice (some ad) k c := ⟨_, rfl⟩
    obtain ⟨Y2, hY2⟩ : ∃ Y : Value, Y = .slice (if c = k then some ad else some (ad.add k)) (n - k) (c - k) := ⟨_, rfl⟩
    have HR1 := hid (fun (V : World) (b : App.Bl w V) => show Reads V Y1 k (cellsI (xs.take k)) from hY1 ▸ reads_take HL.out hk (HR.out) b)
    have HR2 := hid (fun (V : World) (b : App.Bl w V) => show Reads V Y2 (n - k) (cellsI (xs.drop k)) from hY2 ▸ reads_drop HL.out hk hcn (HR.out) b)
    have HY1 := hid hY1
    have HY2 := hid hY2
    have S0 : (fun _ : World => True) w.drew := trivial
    go_upto_region 6 with fail
    refine Last.region_last 12 (fun _ : World => True) (by kernel_rfl) ?_
    refine Last.last_take (i := 1) (d := some 34) (v := .slice (some ad) n c) rfl rfl (by kernel_rfl) (by kernel_rfl) (by kernel_rfl) (fun _ _ _ h => h) rfl (by kernel_rfl) (by kernel_rfl) rfl ?_ S0 ?_
    ·(intro V hV; go_simp; try with_reducible rfl)
    try simp only [Act.put, List.setIfInBounds_toArray, List.set_cons_zero, List.set_cons_succ]
    refine Last.last_take (i := 2) (d := some 35) (v := .int .i64 (k : Int)) rfl rfl (by kernel_rfl) (by kernel_rfl) (by kernel_rfl) (fun _ _ _ h => h) rfl (by kernel_rfl) (by kernel_rfl) rfl ?_ S0 ?_
    ·(intro V hV; go_simp; try with_reducible rfl)
    try simp only [Act.put, List.setIfInBounds_toArray, List.set_cons_zero, List.set_cons_succ]
    refine Last.last_take (i := 3) (d := some 36) (v := Y1) rfl rfl (by kernel_rfl) (by kernel_rfl) (by kernel_rfl) (fun _ _ _ h => h) rfl (by kernel_rfl) (by kernel_rfl) rfl ?_ S0 ?_
    ·(intro V hV; go_simp; try rw [if_pos hkc, HY1.out]; try with_reducible rfl)
    try simp only [Act.put, List.setIfInBounds_toArray, List.set_cons_zero, List.set_cons_succ]
    refine Last.last_take (i := 5) (d := some 38) (v := .int .i64 x) rfl rfl (by kernel_rfl) (by kernel_rfl) (by kernel_rfl) (fun _ _ _ h => h) rfl (by kernel_rfl) (by kernel_rfl) rfl ?_ S0 ?_
    ·(intro V hV; go_simp; try with_reducible rfl)
    try simp only [Act.put, List.setIfInBounds_toArray, List.set_cons_zero, List.set_cons_succ]
    refine Last.last_take (i := 8) (d := some 41) (v := .slice (some ad) n c) rfl rfl (by kernel_rfl) (by kernel_rfl) (by kernel_rfl) (fun _ _ _ h => h) rfl (by kernel_rfl) (by kernel_rfl) rfl ?_ S0 ?_
    ·(intro V hV; go_simp; try with_reducible rfl)
    try simp only [Act.put, List.setIfInBounds_toArray, List.set_cons_zero, List.set_cons_succ]
    refine Last.last_take (i := 9) (d := some 42) (v := .int .i64 (k : Int)) rfl rfl (by kernel_rfl) (by kernel_rfl) (by kernel_rfl) (fun _ _ _ h => h) rfl (by kernel_rfl) (by kernel_rfl) rfl ?_ S0 ?_
    ·(intro V hV; go_simp; try with_reducible rfl)
    try simp only [Act.put, List.setIfInBounds_toArray, List.set_cons_zero, List.set_cons_succ]
    refine Last.last_take (i := 10) (d := some 43) (v := Y2) rfl rfl (by kernel_rfl) (by kernel_rfl) (by kernel_rfl) (fun _ _ _ h => h) rfl (by kernel_rfl) (by kernel_rfl) rfl ?_ S0 ?_
    ·(intro V hV; go_simp; try rw [HY2.out]; try simp [hkc, hk]; try with_reducible rfl)
    try simp only [Act.put, List.setIfInBounds_toArray, List.set_cons_zero, List.set_cons_succ]
    clear HY1 HY2 hY1 hY2 S0
    refine Last.last_two (i := 0) (j := 6) (oi := { dst := some 33, op := .buildSlice 26 0 #[], type := _, pos := _, after := _, guard := none }) (oj := { dst := some 39, op := .buildSlice 26 1 #[(0, .tmp 38)], type := _, pos := _, after := _, guard := none }) (by kernel_rfl) rfl rfl rfl rfl (fun K hK => ?_) (fun K hK => ?_)
    ·skip
     go_simp
     refine hK.out _ _ (fun _ => trivial) ?_
     clear hK K
     try simp only [Act.put, List.setIfInBounds_toArray, List.set_cons_zero, List.set_cons_succ]
     refine Last.last_two (i := 4) (j := 6) (oi := { dst := some 37, op := .call { callee := .builtin .append, args := #[.tmp 33, .tmp 36], argTypes := #[26, 26] }, type := _, pos := _, after := _, guard := none }) (oj := { dst := some 39, op := .buildSlice 26 1 #[(0, .tmp 38)], type := _, pos := _, after := _, guard := none }) (by kernel_rfl) rfl rfl rfl rfl (fun K hK => ?_) (fun K hK => ?_)
     ·skip
      refine src_wp (.tmp 33) (.tmp 36) 26 rfl w.heap.size 3 i0 _ 8 Try.underlying26 hi hz0 hz1 hz2 rfl (.slice (some ⟨w.heap.size, 0, none⟩) 0 0) 0 _ rfl (App.empty_own (heap1_0 w.drew _) (Nat.le_refl _)) Y1 k (cellsI (xs.take k)) rfl (HR1.out _ (show App.Bl w _ by repeat (first | assumption | refine App.Bl.alloc ?_ _ | refine App.Bl.drew ?_ | exact App.Bl.refl _))) (cellsI_one _) (by unfold maxLen; omega) (by omega) (by first | exact ((show App.Bl w _ by repeat (first | assumption | refine App.Bl.alloc ?_ _ | refine App.Bl.drew ?_ | exact App.Bl.refl _))).size | (simp; done) | (simp; omega)) ?_
      intro v1 w1 o1 g1 t1
      have hB1 : App.Bl w w1 := App.Bl.grown (show App.Bl w _ by repeat (first | assumption | refine App.Bl.alloc ?_ _ | refine App.Bl.drew ?_ | exact App.Bl.refl _)) g1 (fun k hk => Nat.le_trans (by omega) (Nat.le_of_eq (show w.heap.size = k by simpa [Value.ownBlock] using hk)))
      clear g1
      clear t1 
      refine hK.out _ _ (fun _ => trivial) ?_
      clear hK K
      try simp only [Act.put, List.setIfInBounds_toArray, List.set_cons_zero, List.set_cons_succ]
      refine Last.last_one (i := 6) (o := { dst := some 39, op := .buildSlice 26 1 #[(0, .tmp 38)], type := _, pos := _, after := _, guard := none }) (by kernel_rfl) rfl rfl (fun K hK => ?_)
      go_simp
      refine hK.out _ _ (fun _ => trivial) ?_
      clear hK K
      try simp only [Act.put, List.setIfInBounds_toArray, List.set_cons_zero, List.set_cons_succ]
      refine Last.last_one (i := 7) (o := { dst := some 40, op := .call { callee := .builtin .append, args := #[.tmp 37, .tmp 39], argTypes := #[26, 26] }, type := _, pos := _, after := _, guard := none }) (by kernel_rfl) rfl rfl (fun K hK => ?_)
      refine src_wp (.tmp 37) (.tmp 39) 26 rfl w.heap.size 3 i0 _ 8 Try.underlying26 hi hz0 hz1 hz2 rfl _ _ _ rfl (o1.alloc _) (.slice (some ⟨w1.heap.size, 0, none⟩) 1 1) 1 [.int .i64 x] rfl (reads_own (App.one_own (heap1_0 w1 _))) (by intro u hu; simp at hu; rcases hu with rfl; rfl) (by unfold maxLen; omega) (by omega) (by first | exact ((show App.Bl w _ by repeat (first | assumption | refine App.Bl.alloc ?_ _ | refine App.Bl.drew ?_ | exact App.Bl.refl _))).size | (simp; done) | (simp; omega)) ?_
      intro v2 w2 o2 g2 t2
      have hB2 : App.Bl w w2 := App.Bl.grown (show App.Bl w _ by repeat (first | assumption | refine App.Bl.alloc ?_ _ | refine App.Bl.drew ?_ | exact App.Bl.refl _)) g2 (fun k hk => (o1.lt k hk).1)
      clear g2
      clear t2 
      refine hK.out _ _ (fun _ => trivial) ?_
      clear hK K
      try simp only [Act.put, List.setIfInBounds_toArray, List.set_cons_zero, List.set_cons_succ]
      refine Last.last_one (i := 11) (o := { dst := some 44, op := .call { callee := .builtin .append, args := #[.tmp 40, .tmp 43], argTypes := #[26, 26] }, type := _, pos := _, after := _, guard := none }) (by kernel_rfl) rfl rfl (fun K hK => ?_)
      refine src_wp (.tmp 40) (.tmp 43) 26 rfl w.heap.size 3 i0 _ 8 Try.underlying26 hi hz0 hz1 hz2 rfl _ _ _ rfl o2 Y2 (n - k) (cellsI (xs.drop k)) rfl (HR2.out _ (show App.Bl w _ by repeat (first | assumption | refine App.Bl.alloc ?_ _ | refine App.Bl.drew ?_ | exact App.Bl.refl _))) (cellsI_one _) (by unfold maxLen; omega) (by omega) (by first | exact ((show App.Bl w _ by repeat (first | assumption | refine App.Bl.alloc ?_ _ | refine App.Bl.drew ?_ | exact App.Bl.refl _))).size | (simp; done) | (simp; omega)) ?_
      intro v3 w3 o3 g3 t3
      have hB3 : App.Bl w w3 := App.Bl.grown (show App.Bl w _ by repeat (first | assumption | refine App.Bl.alloc ?_ _ | refine App.Bl.drew ?_ | exact App.Bl.refl _)) g3 (fun k hk => (o2.lt k hk).1)
      clear g3
      clear t3 
      refine hK.out _ _ (fun _ => trivial) ?_
      clear hK K
      try simp only [Act.put, List.setIfInBounds_toArray, List.set_cons_zero, List.set_cons_succ]
      refine Last.last_one (i := 12) (o := { dst := some 4, op := .assign (.tmp 44), type := _, pos := _, after := _, guard := none }) (by kernel_rfl) rfl rfl (fun K hK => ?_)
      go_simp
      refine hK.out _ _ (fun h => absurd rfl h) ?_
      clear hK K
      try simp only [Act.put, List.setIfInBounds_toArray, List.set_cons_zero, List.set_cons_succ]
      refine Last.last_done (by kernel_rfl) ?_ _
      go_wp2_with fail
      go_ret
      obtain ⟨A', c', rfl, hf⟩ := HFIN.out w3 _ o3
      exact ⟨A', c', rfl, own_mono hf hlo, hB3, .inr hf⟩
     ·skip
      go_simp
      refine hK.out _ _ (fun _ => trivial) ?_
      clear hK K
      try simp only [Act.put, List.setIfInBounds_toArray, List.set_cons_zero, List.set_cons_succ]
      refine Last.last_one (i := 4) (o := { dst := some 37, op := .call { callee := .builtin .append, args := #[.tmp 33, .tmp 36], argTypes := #[26, 26] }, type := _, pos := _, after := _, guard := none }) (by kernel_rfl) rfl rfl (fun K hK => ?_)
      refine src_wp (.tmp 33) (.tmp 36) 26 rfl w.heap.size 3 i0 _ 8 Try.underlying26 hi hz0 hz1 hz2 rfl (.slice (some ⟨w.heap.size, 0, none⟩) 0 0) 0 _ rfl (App.empty_own (heap2_0 w.drew _ _) (Nat.le_refl _)) Y1 k (cellsI (xs.take k)) rfl (HR1.out _ (show App.Bl w _ by repeat (first | assumption | refine App.Bl.alloc ?_ _ | refine App.Bl.drew ?_ | exact App.Bl.refl _))) (cellsI_one _) (by unfold maxLen; omega) (by omega) (by first | exact ((show App.Bl w _ by repeat (first | assumption | refine App.Bl.alloc ?_ _ | refine App.Bl.drew ?_ | exact App.Bl.refl _))).size | (simp; done) | (simp; omega)) ?_
      intro v1 w1 o1 g1 t1
      have hB1 : App.Bl w w1 := App.Bl.grown (show App.Bl w _ by repeat (first | assumption | refine App.Bl.alloc ?_ _ | refine App.Bl.drew ?_ | exact App.Bl.refl _)) g1 (fun k hk => Nat.le_trans (by omega) (Nat.le_of_eq (show w.heap.size = k by simpa [Value.ownBlock] using hk)))
      have el : w1.ownsRow 0 3 1 (.slice (some ⟨w.heap.size + 1, 0, none⟩) 1 1) 1 [.int .i64 x] := World.ownsRow.kept (w := ((w.drew.alloc (.cells #[] 3)).alloc (.cells #[.int .i64 x] 3))) (App.one_own (heap2_1 w.drew _ _)) g1 (.inr (by simp [Value.ownBlock]))
      clear g1
      clear t1 
      refine hK.out _ _ (fun _ => trivial) ?_
      clear hK K
      try simp only [Act.put, List.setIfInBounds_toArray, List.set_cons_zero, List.set_cons_succ]
      refine Last.last_one (i := 7) (o := { dst := some 40, op := .call { callee := .builtin .append, args := #[.tmp 37, .tmp 39], argTypes := #[26, 26] }, type := _, pos := _, after := _, guard := none }) (by kernel_rfl) rfl rfl (fun K hK => ?_)
      refine src_wp (.tmp 37) (.tmp 39) 26 rfl w.heap.size 3 i0 _ 8 Try.underlying26 hi hz0 hz1 hz2 rfl _ _ _ rfl o1 (.slice (some ⟨w.heap.size + 1, 0, none⟩) 1 1) 1 [.int .i64 x] rfl (reads_own el) (by intro u hu; simp at hu; rcases hu with rfl; rfl) (by unfold maxLen; omega) (by omega) (by first | exact ((show App.Bl w _ by repeat (first | assumption | refine App.Bl.alloc ?_ _ | refine App.Bl.drew ?_ | exact App.Bl.refl _))).size | (simp; done) | (simp; omega)) ?_
      intro v2 w2 o2 g2 t2
      have hB2 : App.Bl w w2 := App.Bl.grown (show App.Bl w _ by repeat (first | assumption | refine App.Bl.alloc ?_ _ | refine App.Bl.drew ?_ | exact App.Bl.refl _)) g2 (fun k hk => (o1.lt k hk).1)
      clear g2
      clear t2 
      refine hK.out _ _ (fun _ => trivial) ?_
      clear hK K
      try simp only [Act.put, List.setIfInBounds_toArray, List.set_cons_zero, List.set_cons_succ]
      refine Last.last_one (i := 11) (o := { dst := some 44, op := .call { callee := .builtin .append, args := #[.tmp 40, .tmp 43], argTypes := #[26, 26] }, type := _, pos := _, after := _, guard := none }) (by kernel_rfl) rfl rfl (fun K hK => ?_)
      refine src_wp (.tmp 40) (.tmp 43) 26 rfl w.heap.size 3 i0 _ 8 Try.underlying26 hi hz0 hz1 hz2 rfl _ _ _ rfl o2 Y2 (n - k) (cellsI (xs.drop k)) rfl (HR2.out _ (show App.Bl w _ by repeat (first | assumption | refine App.Bl.alloc ?_ _ | refine App.Bl.drew ?_ | exact App.Bl.refl _))) (cellsI_one _) (by unfold maxLen; omega) (by omega) (by first | exact ((show App.Bl w _ by repeat (first | assumption | refine App.Bl.alloc ?_ _ | refine App.Bl.drew ?_ | exact App.Bl.refl _))).size | (simp; done) | (simp; omega)) ?_
      intro v3 w3 o3 g3 t3
      have hB3 : App.Bl w w3 := App.Bl.grown (show App.Bl w _ by repeat (first | assumption | refine App.Bl.alloc ?_ _ | refine App.Bl.drew ?_ | exact App.Bl.refl _)) g3 (fun k hk => (o2.lt k hk).1)
      clear g3
      clear t3 
      refine hK.out _ _ (fun _ => trivial) ?_
      clear hK K
      try simp only [Act.put, List.setIfInBounds_toArray, List.set_cons_zero, List.set_cons_succ]
      refine Last.last_one (i := 12) (o := { dst := some 4, op := .assign (.tmp 44), type := _, pos := _, after := _, guard := none }) (by kernel_rfl) rfl rfl (fun K hK => ?_)
      go_simp
      refine hK.out _ _ (fun h => absurd rfl h) ?_
      clear hK K
      try simp only [Act.put, List.setIfInBounds_toArray, List.set_cons_zero, List.set_cons_succ]
      refine Last.last_done (by kernel_rfl) ?_ _
      go_wp2_with fail
      go_ret
      obtain ⟨A', c', rfl, hf⟩ := HFIN.out w3 _ o3
      exact ⟨A', c', rfl, own_mono hf hlo, hB3, .inr hf⟩
    ·skip
     go_simp
     refine hK.out _ _ (fun _ => trivial) ?_
     clear hK K
     try simp only [Act.put, List.setIfInBounds_toArray, List.set_cons_zero, List.set_cons_succ]
     refine Last.last_one (i := 0) (o := { dst := some 33, op := .buildSlice 26 0 #[], type := _, pos := _, after := _, guard := none }) (by kernel_rfl) rfl rfl (fun K hK => ?_)
     go_simp
     refine hK.out _ _ (fun _ => trivial) ?_
     clear hK K
     try simp only [Act.put, List.setIfInBounds_toArray, List.set_cons_zero, List.set_cons_succ]
     refine Last.last_one (i := 4) (o := { dst := some 37, op := .call { callee := .builtin .append, args := #[.tmp 33, .tmp 36], argTypes := #[26, 26] }, type := _, pos := _, after := _, guard := none }) (by kernel_rfl) rfl rfl (fun K hK => ?_)
     refine src_wp (.tmp 33) (.tmp 36) 26 rfl w.heap.size 3 i0 _ 8 Try.underlying26 hi hz0 hz1 hz2 rfl (.slice (some ⟨(w.heap.size + 1), 0, none⟩) 0 0) 0 _ rfl (App.empty_own (heap2_1 w.drew _ _) (Nat.le_succ _)) Y1 k (cellsI (xs.take k)) rfl (HR1.out _ (show App.Bl w _ by repeat (first | assumption | refine App.Bl.alloc ?_ _ | refine App.Bl.drew ?_ | exact App.Bl.refl _))) (cellsI_one _) (by unfold maxLen; omega) (by omega) (by first | exact ((show App.Bl w _ by repeat (first | assumption | refine App.Bl.alloc ?_ _ | refine App.Bl.drew ?_ | exact App.Bl.refl _))).size | (simp; done) | (simp; omega)) ?_
     intro v1 w1 o1 g1 t1
     have hB1 : App.Bl w w1 := App.Bl.grown (show App.Bl w _ by repeat (first | assumption | refine App.Bl.alloc ?_ _ | refine App.Bl.drew ?_ | exact App.Bl.refl _)) g1 (fun k hk => Nat.le_trans (by omega) (Nat.le_of_eq (show (w.heap.size + 1) = k by simpa [Value.ownBlock] using hk)))
     have el : w1.ownsRow 0 3 1 (.slice (some ⟨w.heap.size, 0, none⟩) 1 1) 1 [.int .i64 x] := World.ownsRow.kept (w := ((w.drew.alloc (.cells #[.int .i64 x] 3)).alloc (.cells #[] 3))) (App.one_own (heap2_0 w.drew _ _)) g1 (.inr (by simp [Value.ownBlock]))
     clear g1
     clear t1 
     refine hK.out _ _ (fun _ => trivial) ?_
     clear hK K
     try simp only [Act.put, List.setIfInBounds_toArray, List.set_cons_zero, List.set_cons_succ]
     refine Last.last_one (i := 7) (o := { dst := some 40, op := .call { callee := .builtin .append, args := #[.tmp 37, .tmp 39], argTypes := #[26, 26] }, type := _, pos := _, after := _, guard := none }) (by kernel_rfl) rfl rfl (fun K hK => ?_)
     refine src_wp (.tmp 37) (.tmp 39) 26 rfl w.heap.size 3 i0 _ 8 Try.underlying26 hi hz0 hz1 hz2 rfl _ _ _ rfl o1 (.slice (some ⟨w.heap.size, 0, none⟩) 1 1) 1 [.int .i64 x] rfl (reads_own el) (by intro u hu; simp at hu; rcases hu with rfl; rfl) (by unfold maxLen; omega) (by omega) (by first | exact ((show App.Bl w _ by repeat (first | assumption | refine App.Bl.alloc ?_ _ | refine App.Bl.drew ?_ | exact App.Bl.refl _))).size | (simp; done) | (simp; omega)) ?_
     intro v2 w2 o2 g2 t2
     have hB2 : App.Bl w w2 := App.Bl.grown (show App.Bl w _ by repeat (first | assumption | refine App.Bl.alloc ?_ _ | refine App.Bl.drew ?_ | exact App.Bl.refl _)) g2 (fun k hk => (o1.lt k hk).1)
     clear g2
     clear t2 
     refine hK.out _ _ (fun _ => trivial) ?_
     clear hK K
     try simp only [Act.put, List.setIfInBounds_toArray, List.set_cons_zero, List.set_cons_succ]
     refine Last.last_one (i := 11) (o := { dst := some 44, op := .call { callee := .builtin .append, args := #[.tmp 40, .tmp 43], argTypes := #[26, 26] }, type := _, pos := _, after := _, guard := none }) (by kernel_rfl) rfl rfl (fun K hK => ?_)
     refine src_wp (.tmp 40) (.tmp 43) 26 rfl w.heap.size 3 i0 _ 8 Try.underlying26 hi hz0 hz1 hz2 rfl _ _ _ rfl o2 Y2 (n - k) (cellsI (xs.drop k)) rfl (HR2.out _ (show App.Bl w _ by repeat (first | assumption | refine App.Bl.alloc ?_ _ | refine App.Bl.drew ?_ | exact App.Bl.refl _))) (cellsI_one _) (by unfold maxLen; omega) (by omega) (by first | exact ((show App.Bl w _ by repeat (first | assumption | refine App.Bl.alloc ?_ _ | refine App.Bl.drew ?_ | exact App.Bl.refl _))).size | (simp; done) | (simp; omega)) ?_
     intro v3 w3 o3 g3 t3
     have hB3 : App.Bl w w3 := App.Bl.grown (show App.Bl w _ by repeat (first | assumption | refine App.Bl.alloc ?_ _ | refine App.Bl.drew ?_ | exact App.Bl.refl _)) g3 (fun k hk => (o2.lt k hk).1)
     clear g3
     clear t3 
     refine hK.out _ _ (fun _ => trivial) ?_
     clear hK K
     try simp only [Act.put, List.setIfInBounds_toArray, List.set_cons_zero, List.set_cons_succ]
     refine Last.last_one (i := 12) (o := { dst := some 4, op := .assign (.tmp 44), type := _, pos := _, after := _, guard := none }) (by kernel_rfl) rfl rfl (fun K hK => ?_)
     go_simp
     refine hK.out _ _ (fun h => absurd rfl h) ?_
     clear hK K
     try simp only [Act.put, List.setIfInBounds_toArray, List.set_cons_zero, List.set_cons_succ]
     refine Last.last_done (by kernel_rfl) ?_ _
     go_wp2_with fail
     go_ret
     obtain ⟨A', c', rfl, hf⟩ := HFIN.out w3 _ o3
     exact ⟨A', c', rfl, own_mono hf hlo, hB3, .inr hf⟩
   | none =>
    obtain ⟨rfl, rfl⟩ : k = 0 ∧ c = 0 := by
     rcases HO.out.2 with ⟨hv, _⟩ | ⟨g, cap, cur, hv, _⟩
     ·simp only [Value.slice.injEq, true_and] at hv
      exact hv
     ·cases hv
    obtain rfl : xs = [] := List.eq_nil_of_length_eq_zero HL.out
    clear HR HO
    have hkc : (0 : Nat) ≤ 0 := Nat.le_refl _
    have hk : (0 : Nat) ≤ 0 := Nat.le_refl _
    have HFIN := hid (fun (V : World) (v : Value) (h : V.ownsRow w.heap.size 3 1 v (0 + 0 + 1 + (0 - 0)) ([] ++ cellsI (([] : List Int).take 0) ++ [.int .i64 x] ++ cellsI (([] : List Int).drop 0))) => fin_own (l := []) (x := x) (k := 0) (n := 0) (lo := w.heap.size) rfl hk (Nat.le_refl _) rfl h)
    obtain ⟨Y1, hY1⟩ : ∃ Y : Value, Y = .slice none 0 0 := ⟨_, rfl⟩
    obtain ⟨Y2, hY2⟩ : ∃ Y : Value, Y = .slice none 0 0 := ⟨_, rfl⟩
    have HR1 := hid (fun (V : World) (b : App.Bl w V) => show Reads V Y1 0 (cellsI (([] : List Int).take 0)) from hY1 ▸ ⟨none, 0, rfl, rfl, .inl ⟨rfl, rfl⟩⟩)
    have HR2 := hid (fun (V : World) (b : App.Bl w V) => show Reads V Y2 (0 - 0) (cellsI (([] : List Int).drop 0)) from hY2 ▸ ⟨none, 0, rfl, rfl, .inl ⟨rfl, rfl⟩⟩)
    have HY1 := hid hY1
    have HY2 := hid hY2
    have S0 : (fun _ : World => True) w.drew := trivial
    go_upto_region 6 with fail
    refine Last.region_last 12 (fun _ : World => True) (by kernel_rfl) ?_
    refine Last.last_take (i := 1) (d := some 34) (v := .slice none 0 0) rfl rfl (by kernel_rfl) (by kernel_rfl) (by kernel_rfl) (fun _ _ _ h => h) rfl (by kernel_rfl) (by kernel_rfl) rfl ?_ S0 ?_
    ·(intro V hV; go_simp; try with_reducible rfl)
    try simp only [Act.put, List.setIfInBounds_toArray, List.set_cons_zero, List.set_cons_succ]
    refine Last.last_take (i := 2) (d := some 35) (v := .int .i64 0) rfl rfl (by kernel_rfl) (by kernel_rfl) (by kernel_rfl) (fun _ _ _ h => h) rfl (by kernel_rfl) (by kernel_rfl) rfl ?_ S0 ?_
    ·(intro V hV; go_simp; try with_reducible rfl)
    try simp only [Act.put, List.setIfInBounds_toArray, List.set_cons_zero, List.set_cons_succ]
    refine Last.last_take (i := 3) (d := some 36) (v := Y1) rfl rfl (by kernel_rfl) (by kernel_rfl) (by kernel_rfl) (fun _ _ _ h => h) rfl (by kernel_rfl) (by kernel_rfl) rfl ?_ S0 ?_
    ·(intro V hV; go_simp; try rw [if_pos hkc, HY1.out]; try with_reducible rfl)
    try simp only [Act.put, List.setIfInBounds_toArray, List.set_cons_zero, List.set_cons_succ]
    refine Last.last_take (i := 5) (d := some 38) (v := .int .i64 x) rfl rfl (by kernel_rfl) (by kernel_rfl) (by kernel_rfl) (fun _ _ _ h => h) rfl (by kernel_rfl) (by kernel_rfl) rfl ?_ S0 ?_
    ·(intro V hV; go_simp; try with_reducible rfl)
    try simp only [Act.put, List.setIfInBounds_toArray, List.set_cons_zero, List.set_cons_succ]
    refine Last.last_take (i := 8) (d := some 41) (v := .slice none 0 0) rfl rfl (by kernel_rfl) (by kernel_rfl) (by kernel_rfl) (fun _ _ _ h => h) rfl (by kernel_rfl) (by kernel_rfl) rfl ?_ S0 ?_
    ·(intro V hV; go_simp; try with_reducible rfl)
    try simp only [Act.put, List.setIfInBounds_toArray, List.set_cons_zero, List.set_cons_succ]
    refine Last.last_take (i := 9) (d := some 42) (v := .int .i64 0) rfl rfl (by kernel_rfl) (by kernel_rfl) (by kernel_rfl) (fun _ _ _ h => h) rfl (by kernel_rfl) (by kernel_rfl) rfl ?_ S0 ?_
    ·(intro V hV; go_simp; try with_reducible rfl)
    try simp only [Act.put, List.setIfInBounds_toArray, List.set_cons_zero, List.set_cons_succ]
    refine Last.last_take (i := 10) (d := some 43) (v := Y2) rfl rfl (by kernel_rfl) (by kernel_rfl) (by kernel_rfl) (fun _ _ _ h => h) rfl (by kernel_rfl) (by kernel_rfl) rfl ?_ S0 ?_
    ·(intro V hV; go_simp; try rw [HY2.out]; try simp [hkc]; try with_reducible rfl)
    try simp only [Act.put, List.setIfInBounds_toArray, List.set_cons_zero, List.set_cons_succ]
    clear HY1 HY2 hY1 hY2 S0
    refine Last.last_two (i := 0) (j := 6) (oi := { dst := some 33, op := .buildSlice 26 0 #[], type := _, pos := _, after := _, guard := none }) (oj := { dst := some 39, op := .buildSlice 26 1 #[(0, .tmp 38)], type := _, pos := _, after := _, guard := none }) (by kernel_rfl) rfl rfl rfl rfl (fun K hK => ?_) (fun K hK => ?_)
    ·skip
     go_simp
     refine hK.out _ _ (fun _ => trivial) ?_
     clear hK K
     try simp only [Act.put, List.setIfInBounds_toArray, List.set_cons_zero, List.set_cons_succ]
     refine Last.last_two (i := 4) (j := 6) (oi := { dst := some 37, op := .call { callee := .builtin .append, args := #[.tmp 33, .tmp 36], argTypes := #[26, 26] }, type := _, pos := _, after := _, guard := none }) (oj := { dst := some 39, op := .buildSlice 26 1 #[(0, .tmp 38)], type := _, pos := _, after := _, guard := none }) (by kernel_rfl) rfl rfl rfl rfl (fun K hK => ?_) (fun K hK => ?_)
     ·skip
      refine src_wp (.tmp 33) (.tmp 36) 26 rfl w.heap.size 3 i0 _ 8 Try.underlying26 hi hz0 hz1 hz2 rfl (.slice (some ⟨w.heap.size, 0, none⟩) 0 0) 0 _ rfl (App.empty_own (heap1_0 w.drew _) (Nat.le_refl _)) Y1 0 (cellsI (([] : List Int).take 0)) rfl (HR1.out _ (show App.Bl w _ by repeat (first | assumption | refine App.Bl.alloc ?_ _ | refine App.Bl.drew ?_ | exact App.Bl.refl _))) (cellsI_one _) (by unfold maxLen; omega) (by omega) (by first | exact ((show App.Bl w _ by repeat (first | assumption | refine App.Bl.alloc ?_ _ | refine App.Bl.drew ?_ | exact App.Bl.refl _))).size | (simp; done) | (simp; omega)) ?_
      intro v1 w1 o1 g1 t1
      have hB1 : App.Bl w w1 := App.Bl.grown (show App.Bl w _ by repeat (first | assumption | refine App.Bl.alloc ?_ _ | refine App.Bl.drew ?_ | exact App.Bl.refl _)) g1 (fun k hk => Nat.le_trans (by omega) (Nat.le_of_eq (show w.heap.size = k by simpa [Value.ownBlock] using hk)))
      clear g1
      clear t1 
      refine hK.out _ _ (fun _ => trivial) ?_
      clear hK K
      try simp only [Act.put, List.setIfInBounds_toArray, List.set_cons_zero, List.set_cons_succ]
      refine Last.last_one (i := 6) (o := { dst := some 39, op := .buildSlice 26 1 #[(0, .tmp 38)], type := _, pos := _, after := _, guard := none }) (by kernel_rfl) rfl rfl (fun K hK => ?_)
      go_simp
      refine hK.out _ _ (fun _ => trivial) ?_
      clear hK K
      try simp only [Act.put, List.setIfInBounds_toArray, List.set_cons_zero, List.set_cons_succ]
      refine Last.last_one (i := 7) (o := { dst := some 40, op := .call { callee := .builtin .append, args := #[.tmp 37, .tmp 39], argTypes := #[26, 26] }, type := _, pos := _, after := _, guard := none }) (by kernel_rfl) rfl rfl (fun K hK => ?_)
      refine src_wp (.tmp 37) (.tmp 39) 26 rfl w.heap.size 3 i0 _ 8 Try.underlying26 hi hz0 hz1 hz2 rfl _ _ _ rfl (o1.alloc _) (.slice (some ⟨w1.heap.size, 0, none⟩) 1 1) 1 [.int .i64 x] rfl (reads_own (App.one_own (heap1_0 w1 _))) (by intro u hu; simp at hu; rcases hu with rfl; rfl) (by unfold maxLen; omega) (by omega) (by first | exact ((show App.Bl w _ by repeat (first | assumption | refine App.Bl.alloc ?_ _ | refine App.Bl.drew ?_ | exact App.Bl.refl _))).size | (simp; done) | (simp; omega)) ?_
      intro v2 w2 o2 g2 t2
      have hB2 : App.Bl w w2 := App.Bl.grown (show App.Bl w _ by repeat (first | assumption | refine App.Bl.alloc ?_ _ | refine App.Bl.drew ?_ | exact App.Bl.refl _)) g2 (fun k hk => (o1.lt k hk).1)
      clear g2
      clear t2 
      refine hK.out _ _ (fun _ => trivial) ?_
      clear hK K
      try simp only [Act.put, List.setIfInBounds_toArray, List.set_cons_zero, List.set_cons_succ]
      refine Last.last_one (i := 11) (o := { dst := some 44, op := .call { callee := .builtin .append, args := #[.tmp 40, .tmp 43], argTypes := #[26, 26] }, type := _, pos := _, after := _, guard := none }) (by kernel_rfl) rfl rfl (fun K hK => ?_)
      refine src_wp (.tmp 40) (.tmp 43) 26 rfl w.heap.size 3 i0 _ 8 Try.underlying26 hi hz0 hz1 hz2 rfl _ _ _ rfl o2 Y2 (0 - 0) (cellsI (([] : List Int).drop 0)) rfl (HR2.out _ (show App.Bl w _ by repeat (first | assumption | refine App.Bl.alloc ?_ _ | refine App.Bl.drew ?_ | exact App.Bl.refl _))) (cellsI_one _) (by unfold maxLen; omega) (by omega) (by first | exact ((show App.Bl w _ by repeat (first | assumption | refine App.Bl.alloc ?_ _ | refine App.Bl.drew ?_ | exact App.Bl.refl _))).size | (simp; done) | (simp; omega)) ?_
      intro v3 w3 o3 g3 t3
      have hB3 : App.Bl w w3 := App.Bl.grown (show App.Bl w _ by repeat (first | assumption | refine App.Bl.alloc ?_ _ | refine App.Bl.drew ?_ | exact App.Bl.refl _)) g3 (fun k hk => (o2.lt k hk).1)
      clear g3
      clear t3 
      refine hK.out _ _ (fun _ => trivial) ?_
      clear hK K
      try simp only [Act.put, List.setIfInBounds_toArray, List.set_cons_zero, List.set_cons_succ]
      refine Last.last_one (i := 12) (o := { dst := some 4, op := .assign (.tmp 44), type := _, pos := _, after := _, guard := none }) (by kernel_rfl) rfl rfl (fun K hK => ?_)
      go_simp
      refine hK.out _ _ (fun h => absurd rfl h) ?_
      clear hK K
      try simp only [Act.put, List.setIfInBounds_toArray, List.set_cons_zero, List.set_cons_succ]
      refine Last.last_done (by kernel_rfl) ?_ _
      go_wp2_with fail
      go_ret
      obtain ⟨A', c', rfl, hf⟩ := HFIN.out w3 _ o3
      exact ⟨A', c', rfl, own_mono hf hlo, hB3, .inr hf⟩
     ·skip
      go_simp
      refine hK.out _ _ (fun _ => trivial) ?_
      clear hK K
      try simp only [Act.put, List.setIfInBounds_toArray, List.set_cons_zero, List.set_cons_succ]
      refine Last.last_one (i := 4) (o := { dst := some 37, op := .call { callee := .builtin .append, args := #[.tmp 33, .tmp 36], argTypes := #[26, 26] }, type := _, pos := _, after := _, guard := none }) (by kernel_rfl) rfl rfl (fun K hK => ?_)
      refine src_wp (.tmp 33) (.tmp 36) 26 rfl w.heap.size 3 i0 _ 8 Try.underlying26 hi hz0 hz1 hz2 rfl (.slice (some ⟨w.heap.size, 0, none⟩) 0 0) 0 _ rfl (App.empty_own (heap2_0 w.drew _ _) (Nat.le_refl _)) Y1 0 (cellsI (([] : List Int).take 0)) rfl (HR1.out _ (show App.Bl w _ by repeat (first | assumption | refine App.Bl.alloc ?_ _ | refine App.Bl.drew ?_ | exact App.Bl.refl _))) (cellsI_one _) (by unfold maxLen; omega) (by omega) (by first | exact ((show App.Bl w _ by repeat (first | assumption | refine App.Bl.alloc ?_ _ | refine App.Bl.drew ?_ | exact App.Bl.refl _))).size | (simp; done) | (simp; omega)) ?_
      intro v1 w1 o1 g1 t1
      have hB1 : App.Bl w w1 := App.Bl.grown (show App.Bl w _ by repeat (first | assumption | refine App.Bl.alloc ?_ _ | refine App.Bl.drew ?_ | exact App.Bl.refl _)) g1 (fun k hk => Nat.le_trans (by omega) (Nat.le_of_eq (show w.heap.size = k by simpa [Value.ownBlock] using hk)))
      have el : w1.ownsRow 0 3 1 (.slice (some ⟨w.heap.size + 1, 0, none⟩) 1 1) 1 [.int .i64 x] := World.ownsRow.kept (w := ((w.drew.alloc (.cells #[] 3)).alloc (.cells #[.int .i64 x] 3))) (App.one_own (heap2_1 w.drew _ _)) g1 (.inr (by simp [Value.ownBlock]))
      clear g1
      clear t1 
      refine hK.out _ _ (fun _ => trivial) ?_
      clear hK K
      try simp only [Act.put, List.setIfInBounds_toArray, List.set_cons_zero, List.set_cons_succ]
      refine Last.last_one (i := 7) (o := { dst := some 40, op := .call { callee := .builtin .append, args := #[.tmp 37, .tmp 39], argTypes := #[26, 26] }, type := _, pos := _, after := _, guard := none }) (by kernel_rfl) rfl rfl (fun K hK => ?_)
      refine src_wp (.tmp 37) (.tmp 39) 26 rfl w.heap.size 3 i0 _ 8 Try.underlying26 hi hz0 hz1 hz2 rfl _ _ _ rfl o1 (.slice (some ⟨w.heap.size + 1, 0, none⟩) 1 1) 1 [.int .i64 x] rfl (reads_own el) (by intro u hu; simp at hu; rcases hu with rfl; rfl) (by unfold maxLen; omega) (by omega) (by first | exact ((show App.Bl w _ by repeat (first | assumption | refine App.Bl.alloc ?_ _ | refine App.Bl.drew ?_ | exact App.Bl.refl _))).size | (simp; done) | (simp; omega)) ?_
      intro v2 w2 o2 g2 t2
      have hB2 : App.Bl w w2 := App.Bl.grown (show App.Bl w _ by repeat (first | assumption | refine App.Bl.alloc ?_ _ | refine App.Bl.drew ?_ | exact App.Bl.refl _)) g2 (fun k hk => (o1.lt k hk).1)
      clear g2
      clear t2 
      refine hK.out _ _ (fun _ => trivial) ?_
      clear hK K
      try simp only [Act.put, List.setIfInBounds_toArray, List.set_cons_zero, List.set_cons_succ]
      refine Last.last_one (i := 11) (o := { dst := some 44, op := .call { callee := .builtin .append, args := #[.tmp 40, .tmp 43], argTypes := #[26, 26] }, type := _, pos := _, after := _, guard := none }) (by kernel_rfl) rfl rfl (fun K hK => ?_)
      refine src_wp (.tmp 40) (.tmp 43) 26 rfl w.heap.size 3 i0 _ 8 Try.underlying26 hi hz0 hz1 hz2 rfl _ _ _ rfl o2 Y2 (0 - 0) (cellsI (([] : List Int).drop 0)) rfl (HR2.out _ (show App.Bl w _ by repeat (first | assumption | refine App.Bl.alloc ?_ _ | refine App.Bl.drew ?_ | exact App.Bl.refl _))) (cellsI_one _) (by unfold maxLen; omega) (by omega) (by first | exact ((show App.Bl w _ by repeat (first | assumption | refine App.Bl.alloc ?_ _ | refine App.Bl.drew ?_ | exact App.Bl.refl _))).size | (simp; done) | (simp; omega)) ?_
      intro v3 w3 o3 g3 t3
      have hB3 : App.Bl w w3 := App.Bl.grown (show App.Bl w _ by repeat (first | assumption | refine App.Bl.alloc ?_ _ | refine App.Bl.drew ?_ | exact App.Bl.refl _)) g3 (fun k hk => (o2.lt k hk).1)
      clear g3
      clear t3 
      refine hK.out _ _ (fun _ => trivial) ?_
      clear hK K
      try simp only [Act.put, List.setIfInBounds_toArray, List.set_cons_zero, List.set_cons_succ]
      refine Last.last_one (i := 12) (o := { dst := some 4, op := .assign (.tmp 44), type := _, pos := _, after := _, guard := none }) (by kernel_rfl) rfl rfl (fun K hK => ?_)
      go_simp
      refine hK.out _ _ (fun h => absurd rfl h) ?_
      clear hK K
      try simp only [Act.put, List.setIfInBounds_toArray, List.set_cons_zero, List.set_cons_succ]
      refine Last.last_done (by kernel_rfl) ?_ _
      go_wp2_with fail
      go_ret
      obtain ⟨A', c', rfl, hf⟩ := HFIN.out w3 _ o3
      exact ⟨A', c', rfl, own_mono hf hlo, hB3, .inr hf⟩
    ·skip
     go_simp
     refine hK.out _ _ (fun _ => trivial) ?_
     clear hK K
     try simp only [Act.put, List.setIfInBounds_toArray, List.set_cons_zero, List.set_cons_succ]
     refine Last.last_one (i := 0) (o := { dst := some 33, op := .buildSlice 26 0 #[], type := _, pos := _, after := _, guard := none }) (by kernel_rfl) rfl rfl (fun K hK => ?_)
     go_simp
     refine hK.out _ _ (fun _ => trivial) ?_
     clear hK K
     try simp only [Act.put, List.setIfInBounds_toArray, List.set_cons_zero, List.set_cons_succ]
     refine Last.last_one (i := 4) (o := { dst := some 37, op := .call { callee := .builtin .append, args := #[.tmp 33, .tmp 36], argTypes := #[26, 26] }, type := _, pos := _, after := _, guard := none }) (by kernel_rfl) rfl rfl (fun K hK => ?_)
     refine src_wp (.tmp 33) (.tmp 36) 26 rfl w.heap.size 3 i0 _ 8 Try.underlying26 hi hz0 hz1 hz2 rfl (.slice (some ⟨(w.heap.size + 1), 0, none⟩) 0 0) 0 _ rfl (App.empty_own (heap2_1 w.drew _ _) (Nat.le_succ _)) Y1 0 (cellsI (([] : List Int).take 0)) rfl (HR1.out _ (show App.Bl w _ by repeat (first | assumption | refine App.Bl.alloc ?_ _ | refine App.Bl.drew ?_ | exact App.Bl.refl _))) (cellsI_one _) (by unfold maxLen; omega) (by omega) (by first | exact ((show App.Bl w _ by repeat (first | assumption | refine App.Bl.alloc ?_ _ | refine App.Bl.drew ?_ | exact App.Bl.refl _))).size | (simp; done) | (simp; omega)) ?_
     intro v1 w1 o1 g1 t1
     have hB1 : App.Bl w w1 := App.Bl.grown (show App.Bl w _ by repeat (first | assumption | refine App.Bl.alloc ?_ _ | refine App.Bl.drew ?_ | exact App.Bl.refl _)) g1 (fun k hk => Nat.le_trans (by omega) (Nat.le_of_eq (show (w.heap.size + 1) = k by simpa [Value.ownBlock] using hk)))
     have el : w1.ownsRow 0 3 1 (.slice (some ⟨w.heap.size, 0, none⟩) 1 1) 1 [.int .i64 x] := World.ownsRow.kept (w := ((w.drew.alloc (.cells #[.int .i64 x] 3)).alloc (.cells #[] 3))) (App.one_own (heap2_0 w.drew _ _)) g1 (.inr (by simp [Value.ownBlock]))
     clear g1
     clear t1 
     refine hK.out _ _ (fun _ => trivial) ?_
     clear hK K
     try simp only [Act.put, List.setIfInBounds_toArray, List.set_cons_zero, List.set_cons_succ]
     refine Last.last_one (i := 7) (o := { dst := some 40, op := .call { callee := .builtin .append, args := #[.tmp 37, .tmp 39], argTypes := #[26, 26] }, type := _, pos := _, after := _, guard := none }) (by kernel_rfl) rfl rfl (fun K hK => ?_)
     refine src_wp (.tmp 37) (.tmp 39) 26 rfl w.heap.size 3 i0 _ 8 Try.underlying26 hi hz0 hz1 hz2 rfl _ _ _ rfl o1 (.slice (some ⟨w.heap.size, 0, none⟩) 1 1) 1 [.int .i64 x] rfl (reads_own el) (by intro u hu; simp at hu; rcases hu with rfl; rfl) (by unfold maxLen; omega) (by omega) (by first | exact ((show App.Bl w _ by repeat (first | assumption | refine App.Bl.alloc ?_ _ | refine App.Bl.drew ?_ | exact App.Bl.refl _))).size | (simp; done) | (simp; omega)) ?_
     intro v2 w2 o2 g2 t2
     have hB2 : App.Bl w w2 := App.Bl.grown (show App.Bl w _ by repeat (first | assumption | refine App.Bl.alloc ?_ _ | refine App.Bl.drew ?_ | exact App.Bl.refl _)) g2 (fun k hk => (o1.lt k hk).1)
     clear g2
     clear t2 
     refine hK.out _ _ (fun _ => trivial) ?_
     clear hK K
     try simp only [Act.put, List.setIfInBounds_toArray, List.set_cons_zero, List.set_cons_succ]
     refine Last.last_one (i := 11) (o := { dst := some 44, op := .call { callee := .builtin .append, args := #[.tmp 40, .tmp 43], argTypes := #[26, 26] }, type := _, pos := _, after := _, guard := none }) (by kernel_rfl) rfl rfl (fun K hK => ?_)
     refine src_wp (.tmp 40) (.tmp 43) 26 rfl w.heap.size 3 i0 _ 8 Try.underlying26 hi hz0 hz1 hz2 rfl _ _ _ rfl o2 Y2 (0 - 0) (cellsI (([] : List Int).drop 0)) rfl (HR2.out _ (show App.Bl w _ by repeat (first | assumption | refine App.Bl.alloc ?_ _ | refine App.Bl.drew ?_ | exact App.Bl.refl _))) (cellsI_one _) (by unfold maxLen; omega) (by omega) (by first | exact ((show App.Bl w _ by repeat (first | assumption | refine App.Bl.alloc ?_ _ | refine App.Bl.drew ?_ | exact App.Bl.refl _))).size | (simp; done) | (simp; omega)) ?_
     intro v3 w3 o3 g3 t3
     have hB3 : App.Bl w w3 := App.Bl.grown (show App.Bl w _ by repeat (first | assumption | refine App.Bl.alloc ?_ _ | refine App.Bl.drew ?_ | exact App.Bl.refl _)) g3 (fun k hk => (o2.lt k hk).1)
     clear g3
     clear t3 
     refine hK.out _ _ (fun _ => trivial) ?_
     clear hK K
     try simp only [Act.put, List.setIfInBounds_toArray, List.set_cons_zero, List.set_cons_succ]
     refine Last.last_one (i := 12) (o := { dst := some 4, op := .assign (.tmp 44), type := _, pos := _, after := _, guard := none }) (by kernel_rfl) rfl rfl (fun K hK => ?_)
     go_simp
     refine hK.out _ _ (fun h => absurd rfl h) ?_
     clear hK K
     try simp only [Act.put, List.setIfInBounds_toArray, List.set_cons_zero, List.set_cons_succ]
     refine Last.last_done (by kernel_rfl) ?_ _
     go_wp2_with fail
     go_ret
     obtain ⟨A', c', rfl, hf⟩ := HFIN.out w3 _ o3
     exact ⟨A', c', rfl, own_mono hf hlo, hB3, .inr hf⟩
theorem l1Put_any (lo n c : Nat) (A : Option Addr) (xs : List Int) (x : Int) (hn : n ≤ 1000000) (hl : xs.length = n) (hcn : n ≤ c) (w : World) (ho : w.ownsRow lo 3 1 (.slice A n c) n (cellsI xs)) (hlo : lo ≤ w.heap.size) :
  Calls Try.prog 91 #[.slice A n c, .int .i64 x] w fun e w' => ∃ A' c', e = .returned (.slice A' (putS xs x).length c') ∧ OwnI w' lo (.slice A' (putS xs x).length c') (putS xs x) ∧ Below w.heap.size w w' :=
 (l1Put_own lo n c A xs x hn hl hcn w ho hlo).mono fun e w' h => by
  obtain ⟨A', c', h1, h2, h3, _⟩ := h
  exact ⟨A', c', h1, h2, h3⟩
end Go.Proofs.Ytdmcgkcpclepfaa.SetM
-- squeezed
