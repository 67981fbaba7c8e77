import Derived.Test.YtdmcgkcpclepfaaXrs
import Derived.RegionTactic
import Derived.BigRegion
set_option linter.all false
namespace Go.Proofs.Ytdmcgkcpclepfaa.Xri
open Go.ChangeShapes Go.WideShapes Go.ChangeAt Go.RowKit
open PL Mem Sst To AskP StpS Res PrgS IntsP LawI SetM Xcp Xpl Xrs
def RB (l : List Int) (w : World) (e : Ending) (w' : World) : Prop := e = .returned (.agg #[.bool (inB l 0), .bool (inB l 1), .bool (inB l 2), .bool (inB l 3)]) ∧ Below w.heap.size w w'
set_option maxHeartbeats 2000000 in
theorem readBy_1 (a b : Int)  (w : World) :
  Calls Try.prog 56 #[.agg #[.int .i64 1, .int .i64 a, .int .i64 b]] w (RB (rdL (1, a, b)) w) := by
 go_enter Try.func56, Try.ntmps56
 go_wp2_with fail
 refine bodyPost_ret (v := ?_) (by simp [results, Try.results56, go_sem]; rfl) rfl ⟨by rfl, ?_⟩
 exact App.Bl.alloc (App.Bl.alloc (App.Bl.alloc (App.Bl.refl _) _) _) _
set_option maxHeartbeats 2000000 in
theorem readBy_2 (a b : Int) (ha : isReg a = true) (hb : isReg b = true) (w : World) :
  Calls Try.prog 56 #[.agg #[.int .i64 2, .int .i64 a, .int .i64 b]] w (RB (rdL (2, a, b)) w) := by
 rcases reg_cases ha with rfl | rfl | rfl | rfl <;> rcases reg_cases hb with rfl | rfl | rfl | rfl
 all_goals
  go_enter Try.func56, Try.ntmps56
  go_wp2_with fail
  go_region
  go_wp2_with fail
  refine bodyPost_ret (v := ?_) (by simp [results, Try.results56, go_sem]; rfl) rfl ⟨by rfl, ?_⟩
  exact App.Bl.drew (App.Bl.alloc (App.Bl.alloc (App.Bl.alloc (App.Bl.refl _) _) _) _)
set_option maxHeartbeats 2000000 in
theorem readBy_3 (a b : Int) (ha : isReg a = true) (w : World) :
  Calls Try.prog 56 #[.agg #[.int .i64 3, .int .i64 a, .int .i64 b]] w (RB (rdL (3, a, b)) w) := by
 rcases reg_cases ha with rfl | rfl | rfl | rfl
 all_goals
  go_enter Try.func56, Try.ntmps56
  go_wp2_with fail
  refine bodyPost_ret (v := ?_) (by simp [results, Try.results56, go_sem]; rfl) rfl ⟨by rfl, ?_⟩
  exact App.Bl.alloc (App.Bl.alloc (App.Bl.alloc (App.Bl.refl _) _) _) _
set_option maxHeartbeats 2000000 in
theorem readBy_4 (a b : Int) (hb : isReg b = true) (w : World) :
  Calls Try.prog 56 #[.agg #[.int .i64 4, .int .i64 a, .int .i64 b]] w (RB (rdL (4, a, b)) w) := by
 rcases reg_cases hb with rfl | rfl | rfl | rfl
 all_goals
  go_enter Try.func56, Try.ntmps56
  go_wp2_with fail
  refine bodyPost_ret (v := ?_) (by simp [results, Try.results56, go_sem]; rfl) rfl ⟨by rfl, ?_⟩
  exact App.Bl.alloc (App.Bl.alloc (App.Bl.alloc (App.Bl.refl _) _) _) _
set_option maxHeartbeats 2000000 in
theorem readBy_5 (a b : Int) (hb : isReg b = true) (w : World) :
  Calls Try.prog 56 #[.agg #[.int .i64 5, .int .i64 a, .int .i64 b]] w (RB (rdL (5, a, b)) w) := by
 rcases reg_cases hb with rfl | rfl | rfl | rfl
 all_goals
  go_enter Try.func56, Try.ntmps56
  go_wp2_with fail
  refine bodyPost_ret (v := ?_) (by simp [results, Try.results56, go_sem]; rfl) rfl ⟨by rfl, ?_⟩
  exact App.Bl.alloc (App.Bl.alloc (App.Bl.alloc (App.Bl.refl _) _) _) _
set_option maxHeartbeats 2000000 in
theorem readBy_6 (a b : Int) (ha : isReg a = true) (w : World) :
  Calls Try.prog 56 #[.agg #[.int .i64 6, .int .i64 a, .int .i64 b]] w (RB (rdL (6, a, b)) w) := by
 rcases reg_cases ha with rfl | rfl | rfl | rfl
 all_goals
  go_enter Try.func56, Try.ntmps56
  go_wp2_with fail
  refine bodyPost_ret (v := ?_) (by simp [results, Try.results56, go_sem]; rfl) rfl ⟨by rfl, ?_⟩
  exact App.Bl.alloc (App.Bl.alloc (App.Bl.alloc (App.Bl.refl _) _) _) _
set_option maxHeartbeats 2000000 in
theorem readBy_7 (a b : Int)  (w : World) :
  Calls Try.prog 56 #[.agg #[.int .i64 7, .int .i64 a, .int .i64 b]] w (RB (rdL (7, a, b)) w) := by
 go_enter Try.func56, Try.ntmps56
 go_wp2_with fail
 refine bodyPost_ret (v := ?_) (by simp [results, Try.results56, go_sem]; rfl) rfl ⟨by rfl, ?_⟩
 exact App.Bl.alloc (App.Bl.alloc (App.Bl.alloc (App.Bl.refl _) _) _) _
set_option maxHeartbeats 2000000 in
theorem readBy_8 (a b : Int) (ha : isReg a = true) (w : World) :
  Calls Try.prog 56 #[.agg #[.int .i64 8, .int .i64 a, .int .i64 b]] w (RB (rdL (8, a, b)) w) := by
 rcases reg_cases ha with rfl | rfl | rfl | rfl
 all_goals
  go_enter Try.func56, Try.ntmps56
  go_wp2_with fail
  refine bodyPost_ret (v := ?_) (by simp [results, Try.results56, go_sem]; rfl) rfl ⟨by rfl, ?_⟩
  exact App.Bl.alloc (App.Bl.alloc (App.Bl.alloc (App.Bl.refl _) _) _) _
set_option maxHeartbeats 2000000 in
theorem readBy_9 (a b : Int) (ha : isReg a = true) (w : World) :
  Calls Try.prog 56 #[.agg #[.int .i64 9, .int .i64 a, .int .i64 b]] w (RB (rdL (9, a, b)) w) := by
 rcases reg_cases ha with rfl | rfl | rfl | rfl
 all_goals
  go_enter Try.func56, Try.ntmps56
  go_wp2_with fail
  refine bodyPost_ret (v := ?_) (by simp [results, Try.results56, go_sem]; rfl) rfl ⟨by rfl, ?_⟩
  exact App.Bl.alloc (App.Bl.alloc (App.Bl.alloc (App.Bl.refl _) _) _) _
set_option maxHeartbeats 2000000 in
theorem readBy_10 (a b : Int)  (w : World) :
  Calls Try.prog 56 #[.agg #[.int .i64 10, .int .i64 a, .int .i64 b]] w (RB (rdL (10, a, b)) w) := by
 go_enter Try.func56, Try.ntmps56
 go_wp2_with fail
 refine bodyPost_ret (v := ?_) (by simp [results, Try.results56, go_sem]; rfl) rfl ⟨by rfl, ?_⟩
 exact App.Bl.alloc (App.Bl.alloc (App.Bl.alloc (App.Bl.refl _) _) _) _
set_option maxHeartbeats 2000000 in
theorem readBy_11 (a b : Int) (hb : isReg b = true) (w : World) :
  Calls Try.prog 56 #[.agg #[.int .i64 11, .int .i64 a, .int .i64 b]] w (RB (rdL (11, a, b)) w) := by
 rcases reg_cases hb with rfl | rfl | rfl | rfl
 all_goals
  go_enter Try.func56, Try.ntmps56
  go_wp2_with fail
  refine bodyPost_ret (v := ?_) (by simp [results, Try.results56, go_sem]; rfl) rfl ⟨by rfl, ?_⟩
  exact App.Bl.alloc (App.Bl.alloc (App.Bl.alloc (App.Bl.refl _) _) _) _
set_option maxHeartbeats 2000000 in
theorem readBy_12 (a b : Int) (ha : isReg a = true) (w : World) :
  Calls Try.prog 56 #[.agg #[.int .i64 12, .int .i64 a, .int .i64 b]] w (RB (rdL (12, a, b)) w) := by
 rcases reg_cases ha with rfl | rfl | rfl | rfl
 all_goals
  go_enter Try.func56, Try.ntmps56
  go_wp2_with fail
  refine bodyPost_ret (v := ?_) (by simp [results, Try.results56, go_sem]; rfl) rfl ⟨by rfl, ?_⟩
  exact App.Bl.alloc (App.Bl.alloc (App.Bl.alloc (App.Bl.refl _) _) _) _
set_option maxHeartbeats 2000000 in
theorem readBy_13 (a b : Int)  (w : World) :
  Calls Try.prog 56 #[.agg #[.int .i64 13, .int .i64 a, .int .i64 b]] w (RB (rdL (13, a, b)) w) := by
 go_enter Try.func56, Try.ntmps56
 go_wp2_with fail
 refine bodyPost_ret (v := ?_) (by simp [results, Try.results56, go_sem]; rfl) rfl ⟨by rfl, ?_⟩
 exact App.Bl.alloc (App.Bl.alloc (App.Bl.alloc (App.Bl.refl _) _) _) _
theorem readBy_any (m : Nat) (k a b : Int) (h : okStep m (k, a, b) = true) (w : World) :
  Calls Try.prog 56 #[.agg #[.int .i64 k, .int .i64 a, .int .i64 b]] w (RB (rdL (k, a, b)) w) := by
 have hA : usesA k = true → isReg a = true := fun e => ok_A h e
 have hB : usesB k = true → isReg b = true := fun e => ok_B h e
 have hk : k = 1 ∨ k = 2 ∨ k = 3 ∨ k = 4 ∨ k = 5 ∨ k = 6 ∨ k = 7 ∨ k = 8 ∨ k = 9 ∨ k = 10 ∨ k = 11 ∨ k = 12 ∨ k = 13 := ok_kinds h
 rcases hk with rfl | rfl | rfl | rfl | rfl | rfl | rfl | rfl | rfl | rfl | rfl | rfl | rfl
 ·exact readBy_1 a b  w
 ·exact readBy_2 a b (hA rfl) (hB rfl) w
 ·exact readBy_3 a b (hA rfl) w
 ·exact readBy_4 a b (hB rfl) w
 ·exact readBy_5 a b (hB rfl) w
 ·exact readBy_6 a b (hA rfl) w
 ·exact readBy_7 a b  w
 ·exact readBy_8 a b (hA rfl) w
 ·exact readBy_9 a b (hA rfl) w
 ·exact readBy_10 a b  w
 ·exact readBy_11 a b (hB rfl) w
 ·exact readBy_12 a b (hA rfl) w
 ·exact readBy_13 a b  w
set_option maxHeartbeats 2000000 in
theorem writtenBy_1 (a b : Int) (ha : isReg a = true) (w : World) :
  Calls Try.prog 60 #[.agg #[.int .i64 1, .int .i64 a, .int .i64 b]] w (RB (wrL (1, a, b)) w) := by
 rcases reg_cases ha with rfl | rfl | rfl | rfl
 all_goals
  go_enter Try.func60, Try.ntmps60
  go_wp2_with fail
  refine bodyPost_ret (v := ?_) (by simp [results, Try.results60, go_sem]; rfl) rfl ⟨by rfl, ?_⟩
  exact App.Bl.alloc (App.Bl.alloc (App.Bl.alloc (App.Bl.refl _) _) _) _
set_option maxHeartbeats 2000000 in
theorem writtenBy_2 (a b : Int) (ha : isReg a = true) (w : World) :
  Calls Try.prog 60 #[.agg #[.int .i64 2, .int .i64 a, .int .i64 b]] w (RB (wrL (2, a, b)) w) := by
 rcases reg_cases ha with rfl | rfl | rfl | rfl
 all_goals
  go_enter Try.func60, Try.ntmps60
  go_wp2_with fail
  refine bodyPost_ret (v := ?_) (by simp [results, Try.results60, go_sem]; rfl) rfl ⟨by rfl, ?_⟩
  exact App.Bl.alloc (App.Bl.alloc (App.Bl.alloc (App.Bl.refl _) _) _) _
set_option maxHeartbeats 2000000 in
theorem writtenBy_3 (a b : Int)  (w : World) :
  Calls Try.prog 60 #[.agg #[.int .i64 3, .int .i64 a, .int .i64 b]] w (RB (wrL (3, a, b)) w) := by
 go_enter Try.func60, Try.ntmps60
 go_wp2_with fail
 refine bodyPost_ret (v := ?_) (by simp [results, Try.results60, go_sem]; rfl) rfl ⟨by rfl, ?_⟩
 exact App.Bl.alloc (App.Bl.alloc (App.Bl.alloc (App.Bl.refl _) _) _) _
set_option maxHeartbeats 2000000 in
theorem writtenBy_4 (a b : Int)  (w : World) :
  Calls Try.prog 60 #[.agg #[.int .i64 4, .int .i64 a, .int .i64 b]] w (RB (wrL (4, a, b)) w) := by
 go_enter Try.func60, Try.ntmps60
 go_wp2_with fail
 refine bodyPost_ret (v := ?_) (by simp [results, Try.results60, go_sem]; rfl) rfl ⟨by rfl, ?_⟩
 exact App.Bl.alloc (App.Bl.alloc (App.Bl.alloc (App.Bl.refl _) _) _) _
set_option maxHeartbeats 2000000 in
theorem writtenBy_5 (a b : Int)  (w : World) :
  Calls Try.prog 60 #[.agg #[.int .i64 5, .int .i64 a, .int .i64 b]] w (RB (wrL (5, a, b)) w) := by
 go_enter Try.func60, Try.ntmps60
 go_wp2_with fail
 refine bodyPost_ret (v := ?_) (by simp [results, Try.results60, go_sem]; rfl) rfl ⟨by rfl, ?_⟩
 exact App.Bl.alloc (App.Bl.alloc (App.Bl.alloc (App.Bl.refl _) _) _) _
set_option maxHeartbeats 2000000 in
theorem writtenBy_6 (a b : Int)  (w : World) :
  Calls Try.prog 60 #[.agg #[.int .i64 6, .int .i64 a, .int .i64 b]] w (RB (wrL (6, a, b)) w) := by
 go_enter Try.func60, Try.ntmps60
 go_wp2_with fail
 refine bodyPost_ret (v := ?_) (by simp [results, Try.results60, go_sem]; rfl) rfl ⟨by rfl, ?_⟩
 exact App.Bl.alloc (App.Bl.alloc (App.Bl.alloc (App.Bl.refl _) _) _) _
set_option maxHeartbeats 2000000 in
theorem writtenBy_7 (a b : Int) (ha : isReg a = true) (w : World) :
  Calls Try.prog 60 #[.agg #[.int .i64 7, .int .i64 a, .int .i64 b]] w (RB (wrL (7, a, b)) w) := by
 rcases reg_cases ha with rfl | rfl | rfl | rfl
 all_goals
  go_enter Try.func60, Try.ntmps60
  go_wp2_with fail
  refine bodyPost_ret (v := ?_) (by simp [results, Try.results60, go_sem]; rfl) rfl ⟨by rfl, ?_⟩
  exact App.Bl.alloc (App.Bl.alloc (App.Bl.alloc (App.Bl.refl _) _) _) _
set_option maxHeartbeats 2000000 in
theorem writtenBy_8 (a b : Int)  (w : World) :
  Calls Try.prog 60 #[.agg #[.int .i64 8, .int .i64 a, .int .i64 b]] w (RB (wrL (8, a, b)) w) := by
 go_enter Try.func60, Try.ntmps60
 go_wp2_with fail
 refine bodyPost_ret (v := ?_) (by simp [results, Try.results60, go_sem]; rfl) rfl ⟨by rfl, ?_⟩
 exact App.Bl.alloc (App.Bl.alloc (App.Bl.alloc (App.Bl.refl _) _) _) _
set_option maxHeartbeats 2000000 in
theorem writtenBy_9 (a b : Int)  (w : World) :
  Calls Try.prog 60 #[.agg #[.int .i64 9, .int .i64 a, .int .i64 b]] w (RB (wrL (9, a, b)) w) := by
 go_enter Try.func60, Try.ntmps60
 go_wp2_with fail
 refine bodyPost_ret (v := ?_) (by simp [results, Try.results60, go_sem]; rfl) rfl ⟨by rfl, ?_⟩
 exact App.Bl.alloc (App.Bl.alloc (App.Bl.alloc (App.Bl.refl _) _) _) _
set_option maxHeartbeats 2000000 in
theorem writtenBy_10 (a b : Int)  (w : World) :
  Calls Try.prog 60 #[.agg #[.int .i64 10, .int .i64 a, .int .i64 b]] w (RB (wrL (10, a, b)) w) := by
 go_enter Try.func60, Try.ntmps60
 go_wp2_with fail
 refine bodyPost_ret (v := ?_) (by simp [results, Try.results60, go_sem]; rfl) rfl ⟨by rfl, ?_⟩
 exact App.Bl.alloc (App.Bl.alloc (App.Bl.alloc (App.Bl.refl _) _) _) _
set_option maxHeartbeats 2000000 in
theorem writtenBy_11 (a b : Int)  (w : World) :
  Calls Try.prog 60 #[.agg #[.int .i64 11, .int .i64 a, .int .i64 b]] w (RB (wrL (11, a, b)) w) := by
 go_enter Try.func60, Try.ntmps60
 go_wp2_with fail
 refine bodyPost_ret (v := ?_) (by simp [results, Try.results60, go_sem]; rfl) rfl ⟨by rfl, ?_⟩
 exact App.Bl.alloc (App.Bl.alloc (App.Bl.alloc (App.Bl.refl _) _) _) _
set_option maxHeartbeats 2000000 in
theorem writtenBy_12 (a b : Int)  (w : World) :
  Calls Try.prog 60 #[.agg #[.int .i64 12, .int .i64 a, .int .i64 b]] w (RB (wrL (12, a, b)) w) := by
 go_enter Try.func60, Try.ntmps60
 go_wp2_with fail
 refine bodyPost_ret (v := ?_) (by simp [results, Try.results60, go_sem]; rfl) rfl ⟨by rfl, ?_⟩
 exact App.Bl.alloc (App.Bl.alloc (App.Bl.alloc (App.Bl.refl _) _) _) _
set_option maxHeartbeats 2000000 in
theorem writtenBy_13 (a b : Int) (ha : isReg a = true) (w : World) :
  Calls Try.prog 60 #[.agg #[.int .i64 13, .int .i64 a, .int .i64 b]] w (RB (wrL (13, a, b)) w) := by
 rcases reg_cases ha with rfl | rfl | rfl | rfl
 all_goals
  go_enter Try.func60, Try.ntmps60
  go_wp2_with fail
  refine bodyPost_ret (v := ?_) (by simp [results, Try.results60, go_sem]; rfl) rfl ⟨by rfl, ?_⟩
  exact App.Bl.alloc (App.Bl.alloc (App.Bl.alloc (App.Bl.refl _) _) _) _
theorem writtenBy_any (m : Nat) (k a b : Int) (h : okStep m (k, a, b) = true) (w : World) :
  Calls Try.prog 60 #[.agg #[.int .i64 k, .int .i64 a, .int .i64 b]] w (RB (wrL (k, a, b)) w) := by
 have hA : usesA k = true → isReg a = true := fun e => ok_A h e
 have hB : usesB k = true → isReg b = true := fun e => ok_B h e
 have hk : k = 1 ∨ k = 2 ∨ k = 3 ∨ k = 4 ∨ k = 5 ∨ k = 6 ∨ k = 7 ∨ k = 8 ∨ k = 9 ∨ k = 10 ∨ k = 11 ∨ k = 12 ∨ k = 13 := ok_kinds h
 rcases hk with rfl | rfl | rfl | rfl | rfl | rfl | rfl | rfl | rfl | rfl | rfl | rfl | rfl
 ·exact writtenBy_1 a b (hA rfl) w
 ·exact writtenBy_2 a b (hA rfl) w
 ·exact writtenBy_3 a b  w
 ·exact writtenBy_4 a b  w
 ·exact writtenBy_5 a b  w
 ·exact writtenBy_6 a b  w
 ·exact writtenBy_7 a b (hA rfl) w
 ·exact writtenBy_8 a b  w
 ·exact writtenBy_9 a b  w
 ·exact writtenBy_10 a b  w
 ·exact writtenBy_11 a b  w
 ·exact writtenBy_12 a b  w
 ·exact writtenBy_13 a b (hA rfl) w
end Go.Proofs.Ytdmcgkcpclepfaa.Xri
-- squeezed
