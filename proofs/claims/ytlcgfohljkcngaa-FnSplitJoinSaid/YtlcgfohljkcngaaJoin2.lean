/- What copying a slice of strings, the model's joining and the program's joining return, for at most 1048576 strings and bytes in all; nothing that was there is written. -/
import Derived.Test.YtlcgfohljkcngaaJoinCan
import Derived.OwnWalk
import Derived.Laws.OwnMore
namespace Go.Proofs.Ytlcgfohljkcngaa.Join2
open Go.ChangeShapes Go.WideShapes Go.ChangeAt Go.RowKit
open JoinPlain JoinWalk JoinCan
theorem info9 : (Try.prog.info? 9).map (fun i => (i.zero, i.size, i.bytes)) = some (some (.string ByteArray.empty), 1, 16) := by kernel_rfl
theorem fill_next (ys zs : List Value) (j : Nat) (hj : j < ys.length) (hz : zs.length = ys.length) (u : Value) (hu : ys[j]? = some u) : (ys.take j ++ zs.drop j).set j u = ys.take (j + 1) ++ zs.drop (j + 1) := by
  have hl : (ys.take j).length = j := by rw [List.length_take]; omega
  rw [List.set_append_right _ _ (by omega), hl, Nat.sub_self, List.drop_eq_getElem_cons (show j < zs.length by omega), List.set_cons_zero, List.take_add_one, hu]
  simp
theorem fill_at (ys zs : List Value) (j : Nat) (hj : j < ys.length) (hz : zs.length = ys.length) : ∃ u, (ys.take j ++ zs.drop j)[j]? = some u := by
  have hl : (ys.take j).length = j := by rw [List.length_take]; omega
  refine ⟨zs[j]'(by omega), ?_⟩
  rw [List.getElem?_append_right (by omega), hl, Nat.sub_self, List.getElem?_drop]
  simp
theorem copy_none (w : World) (a : Option Addr) (cap : Nat) :
    Calls Try.prog 22 #[.slice a 0 cap] w fun e w' => e = .returned (.slice (some ⟨w.heap.size, 0, none⟩) 0 0) ∧ Below w.heap.size w w' := by
  obtain ⟨i0, hi, hz0, hz1, hz2⟩ := info_parts info9
  go_enter Try.func22, Try.ntmps22
  go_wp2_with (at_make; refine wpList_make_full _ rfl _ _ 26 rfl w.heap.size 9 i0 (.string ByteArray.empty) 1 Try.underlying26 hi hz0 hz1 .i64 .i64 _ _ 0 rfl rfl rfl rfl (by omega) (by unfold maxLen; omega) (Nat.le_refl _) ?_; intro w1 hown hgrow)
  refine wp_loop_rounds 1 ?_
  rw [rounds_succ]
  go_wp2
  go_ret
  exact ⟨rfl, (Below.refl _ _).grown hgrow (Nat.le_refl _) (by simp)⟩
set_option maxHeartbeats 1000000 in
theorem copy_some (w : World) (b off n cap : Nat) (xs : List ByteArray) (hl : xs.length = n) (hn0 : 1 ≤ n) (hn : n ≤ 1048576) (hc : Cells w b off xs) :
    Calls Try.prog 22 #[.slice (some ⟨b, off, none⟩) n cap] w fun e w' => e = .returned (.slice (some ⟨w.heap.size, 0, none⟩) n n) ∧ w'.ownsRow w.heap.size 9 1 (.slice (some ⟨w.heap.size, 0, none⟩) n n) n (xs.map Value.string) ∧ Below w.heap.size w w' := by
  obtain ⟨i0, hi, hz0, hz1, hz2⟩ := info_parts info9
  have hL := Lib.hid hl
  have hC := Lib.hid hc
  clear hl hc
  have hmade : (madeCells (Value.string ByteArray.empty).cells (n * 1)).toList = List.replicate n (Value.string ByteArray.empty) := by
    rw [Nat.mul_one]; exact toList_madeCells_one (.string ByteArray.empty) n
  have hM := Lib.hid hmade
  clear hmade
  go_enter Try.func22, Try.ntmps22
  go_wp2_with (at_make; refine wpList_make_full _ rfl _ _ 26 rfl w.heap.size 9 i0 (.string ByteArray.empty) 1 Try.underlying26 hi hz0 hz1 .i64 .i64 _ _ n rfl rfl rfl rfl (by rw [hz2]; omega) (by unfold maxLen; omega) (Nat.le_refl _) ?_; intro w1 hown hgrow; rw [hM.out] at hown)
  go_loopw [4] (fun i wr => ∃ j : Nat, j ≤ n ∧ i = .int .i64 j ∧ wr.ownsRow w.heap.size 9 1 (.slice (some ⟨w.heap.size, 0, none⟩) n n) n ((xs.map Value.string).take j ++ (List.replicate n (Value.string ByteArray.empty)).drop j) ∧ Below w.heap.size w wr) (fun i _ => n - (intOf i).toNat)
  case atStart => exact ⟨0, Nat.zero_le _, rfl, by simpa using hown, (Below.refl _ _).grown hgrow (Nat.le_refl _) (by simp)⟩
  case round =>
    obtain ⟨j, hj, rfl, ho, hb⟩ := hrel
    have hO := Lib.hid ho
    clear ho hown hgrow
    have hsz := hb.size
    by_cases hlt : j < n
    · obtain ⟨x, hx⟩ := get_of (xs := xs) (j := j) (by rw [hL.out]; exact hlt)
      obtain ⟨u, hu⟩ := fill_at (xs.map Value.string) (List.replicate n (Value.string ByteArray.empty)) j (by simpa [hL.out] using hlt) (by simp [hL.out])
      have c0 := (hC.out.below hb).at_ j x hx
      have c1 := (hO.out.cellAt j (by omega)).trans hu
      have f1 := hO.out.frozenAt j
      have hX := Lib.hid hx
      clear hx hu
      go_wp2
      go_roundw
      case rel =>
        have hst := hO.out.stored j (.string x)
        refine ⟨j + 1, by omega, by go_num, ?_, hb.setCell (p := ⟨w.heap.size, j, none⟩) (Nat.le_refl _) _⟩
        rw [← fill_next (xs.map Value.string) (List.replicate n (Value.string ByteArray.empty)) j (by simpa [hL.out] using hlt) (by simp [hL.out]) (.string x) (by rw [List.getElem?_map, hX.out]; rfl)]
        exact hst.1
      case measure => simp [intOf]; omega
    · obtain rfl : j = n := by omega
      go_wp2
      go_ret
      exact ⟨rfl, by have := hO.out; rwa [List.take_of_length_le (by simp [hL.out]), List.drop_of_length_le (by simp), List.append_nil] at this, hb⟩
theorem stands2 (s : ByteArray) (hs : s.size ≤ 1048576) (b : UInt8) (w : World) :
    Calls Try.prog 32 #[.string s, .int .u8 b.toNat] w fun e w' => e = .returned (.bool (has s.data.toList b)) ∧ w' = w :=
  (stands_any s hs b w).mono fun _ _ ⟨he, hw⟩ => ⟨he, hw.symm⟩
theorem quiet_more {P : Program} {f : FuncId} {args : Array Value} {w : World} {a n : Nat} {v : Value}
    (h : Calls P f args (w.drewN (a + n)) fun e w' => e = .returned v ∧ w' = w.drewN (a + n)) :
    Calls P f args (w.drewN (a + n)) fun e w'' => e = .returned v ∧ ∃ m, w'' = w.drewN (a + m) :=
  h.mono fun _ _ ⟨he, hm⟩ => ⟨he, n, hm⟩
def ResJ (o : Option ByteArray) (w : World) (e : Ending) (w' : World) : Prop := e = .returned (.tuple #[.string (outJ o).1, .bool (outJ o).2]) ∧ ∃ q, w' = w.drewN q
set_option maxHeartbeats 2000000 in
theorem spec_good (w : World) (b off n cap : Nat) (xs : List ByteArray) (hl : xs.length = n) (hn0 : 1 ≤ n) (hn : n ≤ 1048576) (ht : tot xs ≤ 1048576) (hc : Cells w b off xs) (sep : ByteArray) (hp2 : 0 < sep.size) (hp1 : sep.size ≤ 1) (c : UInt8) (hb : sep[0] = c) :
    Calls Try.prog 13 #[.slice (some ⟨b, off, none⟩) n cap, .string sep] w (ResJ (jn sep c xs) w) := by
  have hp : ((sep.size : Int) != 1) = false := by
    have : sep.size = 1 := by omega
    rw [this]; rfl
  have hse : Hid (sep.size = 1) := Lib.hid (by omega)
  have hnz : ((n : Int) == 0) = false := by rw [beq_eq_false_iff_ne]; omega
  have hL := Lib.hid hl
  have hC := Lib.hid hc
  clear hl hc
  go_enter Try.func13, Try.ntmps13
  go_wp2
  go_loopw [6, 7] (fun o i wr => ∃ (j : Nat) (A : ByteArray), j ≤ n ∧ i = .int .i64 j ∧ o = .string A ∧ A.size ≤ 4000 ∧ Hid (A = acc sep xs j) ∧ Hid (cl (xs.take j) c = true) ∧ ∃ q, wr = w.drewN q) (fun _ i _ => n - (intOf i).toNat)
  case atStart => exact ⟨0, ⟨#[]⟩, Nat.zero_le _, rfl, rfl, by show 0 ≤ 4000; omega, rfl, rfl, 0, rfl⟩
  case round =>
    obtain ⟨j, A, hj, rfl, rfl, hA4, hA, hcl, q, rfl⟩ := hrel
    by_cases hlt : j < n
    · obtain ⟨x, hx⟩ := get_of (xs := xs) (j := j) (by rw [hL.out]; exact hlt)
      have hcx := hC.out.at_ j x hx
      have hX := Lib.hid hx
      clear hx
      have hxs : x.size ≤ 1048576 := by
        have h1 := tot_next hX.out
        have h2 := tot_le xs (j + 1)
        omega
      have hst := Lib.hid (fun w => stands2 x hxs c w)
      cases hh : has x.data.toList c with
      | true =>
        have hr : Hid (jn sep c xs = none) := Lib.hid (by unfold jn; rw [cl_no c hX.out hh, if_neg (by simp)])
        rw [hh] at hst
        have hh' := Lib.hid hh
        clear hh
        go_wp2
        go_quiet ((go_at_call 32; exact quiet_more (hst.out _)))
        go_wp2
        go_ret2
        exact ⟨by rw [hr.out]; rfl, by first | exact ⟨_, rfl⟩ | exact ⟨_, World.drewN_drewN _ _ _⟩⟩
      | false =>
        have hcl2 : Hid (cl (xs.take (j + 1)) c = true) := Lib.hid (by rw [cl_next c hX.out, hcl.out, hh]; rfl)
        rw [hh] at hst
        have hh' := Lib.hid hh
        clear hh
        by_cases hj0 : 0 < j
        · have hac : Hid (acc sep xs (j + 1) = A ++ sep ++ x) := Lib.hid (by rw [acc_next hj0 hX.out, hA.out])
          by_cases hbig : 4000 < A.size + sep.size + x.size
          · have hr : Hid (jn sep c xs = none) := Lib.hid (by
              have h1 := acc_mono hse.out xs (j + 1) (by rw [hL.out]; omega)
              rw [hac.out, ByteArray.size_append, ByteArray.size_append] at h1
              unfold jn; rw [if_neg (by omega)])
            go_wp2
            go_quiet ((go_at_call 32; exact quiet_more (hst.out _)))
            go_wp2
            go_ret2
            exact ⟨by rw [hr.out]; rfl, by first | exact ⟨_, rfl⟩ | exact ⟨_, World.drewN_drewN _ _ _⟩⟩
          · have hsm : A.size + sep.size + x.size ≤ 4000 := by omega
            clear hbig
            go_wp2
            go_quiet ((go_at_call 32; exact quiet_more (hst.out _)))
            go_wp2
            go_roundw
            case rel => exact ⟨j + 1, A ++ sep ++ x, by omega, by go_num, rfl, by rw [ByteArray.size_append, ByteArray.size_append]; exact hsm, hac.out.symm, hcl2, by first | exact ⟨_, rfl⟩ | exact ⟨_, World.drewN_drewN _ _ _⟩⟩
            case measure => simp [intOf]; omega
        · obtain rfl : j = 0 := by omega
          have hcx0 : w.cell? ⟨b, off, none⟩ = some (.string x) := hcx
          have hac : Hid (acc sep xs (0 + 1) = A ++ x) := Lib.hid (by rw [acc_first hX.out, hA.out])
          by_cases hbig : 4000 < A.size + x.size
          · have hr : Hid (jn sep c xs = none) := Lib.hid (by
              have h1 := acc_mono hse.out xs (0 + 1) (by rw [hL.out]; omega)
              rw [hac.out, ByteArray.size_append] at h1
              unfold jn; rw [if_neg (by omega)])
            go_wp2
            go_quiet ((go_at_call 32; exact quiet_more (hst.out _)))
            go_wp2
            go_ret2
            exact ⟨by rw [hr.out]; rfl, by first | exact ⟨_, rfl⟩ | exact ⟨_, World.drewN_drewN _ _ _⟩⟩
          · have hsm : A.size + x.size ≤ 4000 := by omega
            clear hbig
            go_wp2
            go_quiet ((go_at_call 32; exact quiet_more (hst.out _)))
            go_wp2
            go_roundw
            case rel => exact ⟨0 + 1, A ++ x, by omega, by go_num, rfl, by rw [ByteArray.size_append]; exact hsm, hac.out.symm, hcl2, by first | exact ⟨_, rfl⟩ | exact ⟨_, World.drewN_drewN _ _ _⟩⟩
            case measure => simp [intOf]; omega
    · obtain rfl : j = n := by omega
      have hr : Hid (jn sep c xs = some A) := Lib.hid (by
        have h1 := cl_full c (by rw [hL.out]; exact Nat.le_refl _) hcl.out
        have h2 := hA.out
        unfold jn
        rw [hL.out, ← h2, if_pos ⟨h1, hA4⟩])
      go_wp2
      go_ret2
      exact ⟨by rw [hr.out]; rfl, by first | exact ⟨_, rfl⟩ | exact ⟨_, World.drewN_drewN _ _ _⟩⟩
theorem spec_bad (w : World) (a : Option Addr) (n cap : Nat) (hn : n ≤ 1048576) (sep : ByteArray) (h : n = 0 ∨ sep.size ≠ 1) :
    Calls Try.prog 13 #[.slice a n cap, .string sep] w fun e w' => e = .returned (.tuple #[.string ⟨#[]⟩, .bool false]) ∧ w = w' := by
  by_cases h1 : sep.size = 1
  · have hq : ((sep.size : Int) != 1) = false := by rw [h1]; rfl
    have hz : ((n : Int) == 0) = true := by rw [beq_iff_eq]; omega
    clear h h1
    go_enter Try.func13, Try.ntmps13
    go_wp2
    go_ret2
    exact ⟨rfl, rfl⟩
  · have hq : ((sep.size : Int) != 1) = true := by rw [bne_iff_ne]; omega
    clear h h1
    go_enter Try.func13, Try.ntmps13
    go_wp2
    go_ret2
    exact ⟨rfl, rfl⟩
theorem impl_bad (w : World) (a : Option Addr) (n cap : Nat) (hn : n ≤ 1048576) (sep : ByteArray) (h : n = 0 ∨ sep.size ≠ 1) :
    Calls Try.prog 12 #[.slice a n cap, .string sep] w fun e w' => e = .returned (.tuple #[.string ⟨#[]⟩, .bool false]) ∧ w = w' := by
  by_cases h1 : n = 0
  · have hz : ((n : Int) == 0) = true := by rw [beq_iff_eq]; omega
    clear h h1
    go_enter Try.func12, Try.ntmps12
    go_wp2
    go_ret2
    exact ⟨rfl, rfl⟩
  · have hq : ((sep.size : Int) != 1) = true := by rw [bne_iff_ne]; omega
    have hz : ((n : Int) == 0) = false := by rw [beq_eq_false_iff_ne]; omega
    clear h h1
    go_enter Try.func12, Try.ntmps12
    go_wp2
    go_ret2
    exact ⟨rfl, rfl⟩
def ResB (o : Option ByteArray) (w : World) (e : Ending) (w' : World) : Prop := e = .returned (.tuple #[.string (outJ o).1, .bool (outJ o).2]) ∧ Below w.heap.size w w'
theorem jn_can (sep : ByteArray) (c : UInt8) (xs : List ByteArray) (hs : sep.size = 1) : jn sep c xs = if canR xs c xs.length = true then some (acc sep xs xs.length) else none := by
  have h := acc_size hs xs xs.length (Nat.le_refl _)
  rw [List.take_length] at h
  unfold jn canR
  by_cases h1 : cl xs c = true ∧ (acc sep xs xs.length).size ≤ 4000
  · rw [if_pos h1, if_pos (by rw [h1.1, Bool.true_and, decide_eq_true_eq]; omega)]
  · rw [if_neg h1, if_neg]
    intro hh
    rw [Bool.and_eq_true, decide_eq_true_eq] at hh
    exact h1 ⟨hh.1, by omega⟩
set_option maxHeartbeats 1000000 in
theorem impl_good (w : World) (b off cap : Nat) (xs : List ByteArray) (hn0 : 1 ≤ xs.length) (hn : xs.length ≤ 1048576) (hcap : xs.length ≤ cap) (ht : tot xs ≤ 1048576) (hc : Cells w b off xs) (sep : ByteArray) (hp2 : 0 < sep.size) (hp1 : sep.size ≤ 1) (c : UInt8) (hb : sep[0] = c) :
    Calls Try.prog 12 #[.slice (some ⟨b, off, none⟩) xs.length cap, .string sep] w (ResB (jn sep c xs) w) := by
  have hsz : sep.size = 1 := by omega
  have hj := jn_can sep c xs hsz
  have hacc := acc_size hsz xs xs.length (Nat.le_refl _)
  rw [List.take_length] at hacc
  have hjl := join_acc sep xs (fun e => by rw [e] at hn0; simp at hn0)
  have hJ := Lib.hid (Try.strings_Join b off cap xs sep w (fun j x hx => hc.at_ j x hx) hc.lt (by omega) hcap (by rw [hjl]; simp; omega))
  have hG := Lib.hid (can_some w b off xs.length cap c xs rfl hn0 hn ht hc)
  have hV : Hid ((⟨(Lib.join (xs.map (·.data.toList)) sep.data.toList).toArray⟩ : ByteArray) = acc sep xs xs.length) := Lib.hid (by rw [hjl])
  have hp : ((sep.size : Int) != 1) = false := by rw [hsz]; rfl
  have hz : ((xs.length : Int) == 0) = false := by rw [beq_eq_false_iff_ne]; omega
  have hz2 : xs.isEmpty = false := by cases xs with | nil => simp at hn0 | cons a r => rfl
  clear hc hsz hacc hjl
  cases hcan : canR xs c xs.length with
  | true =>
    have hr : Hid (jn sep c xs = some (acc sep xs xs.length)) := Lib.hid (by rw [hj, if_pos hcan])
    rw [hcan] at hG
    have hcan' := Lib.hid hcan
    clear hj hcan
    generalize (⟨(Lib.join (xs.map (·.data.toList)) sep.data.toList).toArray⟩ : ByteArray) = V at *
    go_enter Try.func12, Try.ntmps12
    go_wp2_with (first | (go_at_call 30; refine hG.out.mono ?_; rintro e w' ⟨rfl, rfl⟩) | (go_at_call 31; refine hJ.out.mono ?_; rintro e w' ⟨rfl, hb2⟩))
    go_ret2
    exact ⟨by rw [hr.out, ← hV.out]; rfl, hb2⟩
  | false =>
    have hr : Hid (jn sep c xs = none) := Lib.hid (by rw [hj, hcan]; rfl)
    rw [hcan] at hG
    have hcan' := Lib.hid hcan
    clear hj hcan hJ
    go_enter Try.func12, Try.ntmps12
    go_wp2_with (go_at_call 30; refine hG.out.mono ?_; rintro e w' ⟨rfl, rfl⟩)
    go_ret2
    exact ⟨by rw [hr.out]; rfl, Below.refl _ _⟩
end Go.Proofs.Ytlcgfohljkcngaa.Join2
