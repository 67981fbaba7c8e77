/- What the law's helper functions over slices of strings return: the mark of a number, marking a slice, asking for the marks, comparing two slices; for at most 1048576 strings and marks up to 2000000. -/
import Derived.Test.YtlcgfohljkcngaaRows
import Derived.WalkKit
import Derived.ProofKit
import Derived.Lib.Hide
import Derived.WalkSpells
import Derived.Laws.BytesString
import Derived.Deep.RegionHeld3
import Derived.Deep.QuietTactic
import Derived.BigQuiet
namespace Go.Proofs.Ytlcgfohljkcngaa.Marks
open Go.ChangeShapes Go.WideShapes Go.ChangeAt Go.RowKit
def dgt (k : Nat) : UInt8 := UInt8.ofNat (48 + k % 10)
/-- The digits of a number, as the helper builds them. -/
def mtB (k : Nat) : ByteArray := if _h : k = 0 then ⟨#[]⟩ else mtB (k / 10) ++ ⟨#[dgt k]⟩
termination_by k
decreasing_by omega
def mark (k : Nat) : ByteArray := ⟨#[109]⟩ ++ mtB k
theorem mtB_zero : mtB 0 = ⟨#[]⟩ := by rw [mtB, dif_pos rfl]
theorem mtB_pos (k : Nat) (h : 0 < k) : mtB k = mtB (k / 10) ++ ⟨#[dgt k]⟩ := by rw [mtB, dif_neg (by omega)]
theorem one_byte (w : World) (j : Nat) :
    (convert 22 9 (.slice (some ⟨w.heap.size, 0, none⟩) 1 1)).run Try.prog (w.alloc (.cells #[.int .u8 (48 + (j : Int) % 10)] 5)) = .ok (.string ⟨#[dgt j]⟩) (w.alloc (.cells #[.int .u8 (48 + (j : Int) % 10)] 5)) := by
  rw [run_convert_bytes_string _ 22 9 5 _ 1 1 Try.underlying22 Try.underlying5 Try.underlying9,
    run_bytesToString _ ⟨w.heap.size, 0, none⟩ 1 1 [48 + (j : Int) % 10] (by simp [loadCells, go_sem])]
  have e : (48 + (j : Int) % 10).toNat = 48 + j % 10 := by omega
  simp only [List.foldl_cons, List.foldl_nil, e]
  rfl
theorem empty_app (s : ByteArray) : s ++ (⟨#[]⟩ : ByteArray) = s := by
  apply ByteArray.ext; simp
theorem app_assoc (a b c : ByteArray) : a ++ b ++ c = a ++ (b ++ c) := by
  apply ByteArray.ext; simp
theorem empty_app' (s : ByteArray) : (⟨#[]⟩ : ByteArray) ++ s = s := by
  apply ByteArray.ext; simp
set_option maxHeartbeats 400000 in
theorem mark_any (k0 : Nat) (h0 : 1 ≤ k0) (h1 : k0 ≤ 2000000) (w : World) :
    Calls Try.prog 34 #[.int .i64 k0] w fun e w' => e = .returned (.string (mark k0)) ∧ Below w.heap.size w w' := by
  have h2 : ¬ (k0 : Int) ≤ 0 := by omega
  have hco := one_byte
  go_enter Try.func34, Try.ntmps34
  go_wp2
  go_loopw [0, 3] (fun k o wr => ∃ (j : Nat) (out : ByteArray), k = .int .i64 j ∧ o = .string out ∧ out.size + j ≤ k0 ∧ mtB j ++ out = mtB k0 ∧ Below w.heap.size w wr) (fun k _ _ => (intOf k).toNat)
  case atStart => exact ⟨k0, ⟨#[]⟩, rfl, rfl, by show 0 + k0 ≤ k0; omega, empty_app _, Below.refl _ _⟩
  case round =>
    obtain ⟨j, out, rfl, rfl, hj, hinv, hb⟩ := hrel
    have hI := Lib.hid hinv
    clear hinv
    have hsz := hb.size
    by_cases hlt : 0 < j
    · have hm1 : 0 ≤ (j : Int) % 10 := by omega
      have hm2 : (j : Int) % 10 < 10 := by omega
      have hq : Hid ((1 : Nat) + j / 10 ≤ j) := Lib.hid (by omega)
      have hs1 : Hid ((⟨#[dgt j]⟩ ++ out : ByteArray).size + j / 10 ≤ k0) := Lib.hid (by
        have e : (⟨#[dgt j]⟩ ++ out : ByteArray).size = 1 + out.size := by rw [ByteArray.size_append]; rfl
        rw [e]; omega)
      have hi1 : Hid (mtB (j / 10) ++ (⟨#[dgt j]⟩ ++ out) = mtB k0) := Lib.hid (by rw [← app_assoc, ← mtB_pos j hlt]; exact hI.out)
      go_wp2
      go_roundw
      case rel => exact ⟨j / 10, ⟨#[dgt j]⟩ ++ out, by go_num, rfl, hs1.out, hi1.out, hb.alloc hsz _⟩
      case measure =>
        have := hq.out
        show ((j : Int) / 10).toNat < (j : Int).toNat
        omega
    · obtain rfl : j = 0 := by omega
      have ho : Hid (out = mtB k0) := Lib.hid (by have := hI.out; rwa [mtB_zero, empty_app'] at this)
      go_wp2
      go_ret
      exact ⟨by rw [mark, ← ho.out]; rfl, hb⟩
/-- The form of a slice that is owned. -/
theorem form {w : World} {B n : Nat} {v : Value} {xs : List Value} (h : w.ownsRow B 9 1 v n xs) : (n = 0 ∧ ∃ a cap, v = .slice a 0 cap) ∨ (0 < n ∧ ∃ g cap, v = .slice (some ⟨g, 0, none⟩) n cap ∧ B ≤ g ∧ g < w.heap.size) := by
  rcases h.2 with ⟨rfl, rfl⟩ | ⟨g, cap, cur, rfl, hb, hg, _⟩
  · exact .inl ⟨rfl, _, _, rfl⟩
  · rcases Nat.eq_zero_or_pos n with rfl | hn
    · exact .inl ⟨rfl, _, _, rfl⟩
    · exact .inr ⟨hn, g, cap, rfl, hb, (Array.getElem?_eq_some_iff.1 hg).1⟩
theorem own_below {w w' : World} {B n : Nat} {v : Value} {xs : List Value} (h : w.ownsRow B 9 1 v n xs) (hb : Below w.heap.size w w') : w'.ownsRow B 9 1 v n xs := by
  refine ⟨h.1, ?_⟩
  rcases h.2 with h0 | ⟨g, cap, cur, hv, hB, hg, r⟩
  · exact .inl h0
  · exact .inr ⟨g, cap, cur, hv, hB, by rw [hb.block g (Array.getElem?_eq_some_iff.1 hg).1]; exact hg, r⟩
def marks (k n : Nat) : List Value := (List.range n).map fun j => .string (mark (k + j))
theorem marks_at (k n j : Nat) (h : j < n) : (marks k n)[j]? = some (.string (mark (k + j))) := by simp [marks, h]
theorem marks_next (k j : Nat) (xs : List Value) (h : j < xs.length) : (marks k j ++ xs.drop j).set j (.string (mark (k + j))) = marks k (j + 1) ++ xs.drop (j + 1) := by
  have hl : (marks k j).length = j := by simp [marks]
  rw [List.set_append_right _ _ (by omega), hl, Nat.sub_self, List.drop_eq_getElem_cons h, List.set_cons_zero]
  simp [marks, List.range_succ]
theorem mid_at (k j : Nat) (xs : List Value) (h : j < xs.length) : ∃ u, (marks k j ++ xs.drop j)[j]? = some u := by
  refine ⟨xs[j], ?_⟩
  have hl : (marks k j).length = j := by simp [marks]
  rw [List.getElem?_append_right (by omega), hl, Nat.sub_self, List.getElem?_drop]
  simp [h]
theorem markS_none (a : Option Addr) (cap : Nat) (k : Nat) (w : World) :
    Calls Try.prog 19 #[.slice a 0 cap, .int .i64 k] w fun e w' => e = .returned (.int .i64 k) ∧ w = w' := by
  go_enter Try.func19, Try.ntmps19
  go_wp2
  refine wp_loop_rounds 1 ?_
  rw [rounds_succ]
  go_wp2
  go_ret
  exact ⟨rfl, rfl⟩
set_option maxHeartbeats 1000000 in
theorem markS_some (B g n cap k : Nat) (xs : List Value) (hk : 1 ≤ k) (hkn : k + n ≤ 2000000) (w : World) (hown : w.ownsRow B 9 1 (.slice (some ⟨g, 0, none⟩) n cap) n xs) (hB : B ≤ w.heap.size) :
    Calls Try.prog 19 #[.slice (some ⟨g, 0, none⟩) n cap, .int .i64 k] w fun e w' => e = .returned (.int .i64 ((k + n : Nat) : Int)) ∧ w'.ownsRow B 9 1 (.slice (some ⟨g, 0, none⟩) n cap) n (marks k n) ∧ Below B w w' := by
  have hlen : xs.length = n := by have := hown.1; omega
  have hBg : B ≤ g := (hown.lt g rfl).1
  have hL := Lib.hid hlen
  have ho := Lib.hid hown
  clear hlen hown
  go_enter Try.func19, Try.ntmps19
  go_wp2
  go_loopw [1, 5] (fun kv i wr => ∃ j kk : Nat, j ≤ n ∧ kk = k + j ∧ i = .int .i64 j ∧ kv = .int .i64 kk ∧ wr.ownsRow B 9 1 (.slice (some ⟨g, 0, none⟩) n cap) n (marks k j ++ xs.drop j) ∧ Below B w wr) (fun _ i _ => n - (intOf i).toNat)
  case atStart => exact ⟨0, k, Nat.zero_le _, rfl, rfl, rfl, by simpa [marks] using ho.out, Below.refl _ _⟩
  case round =>
    obtain ⟨j, kk, hj, hkk, rfl, rfl, hown, hb⟩ := hrel
    have k1 : 1 ≤ kk := by omega
    have k2 : kk ≤ 2000000 := by omega
    have hsz := hb.size
    have hK := Lib.hid hkk
    clear hkk
    by_cases hlt : j < n
    · obtain ⟨u, hu⟩ := mid_at k j xs (by rw [hL.out]; exact hlt)
      have hU := Lib.hid hu
      have hO := Lib.hid hown
      clear hu hown
      go_wp2_with (go_at_call 34; refine (mark_any kk k1 k2 _).mono ?_; rintro e w1 ⟨rfl, hb1⟩; have o1 := own_below hO.out hb1; have c1 := (o1.cellAt j (by omega)).trans hU.out; have f1 := o1.frozenAt j; have O1 := Lib.hid o1; clear o1)
      go_roundw
      case rel =>
        have hst := O1.out.stored j (.string (mark kk))
        refine ⟨j + 1, kk + 1, by omega, by rw [hK.out]; omega, by go_num, by go_num, ?_, ?_⟩
        · rw [← marks_next k j xs (by rw [hL.out]; exact hlt), ← hK.out]; exact hst.1
        · exact (hb.trans (hb1.mono (by omega))).setCell (p := ⟨g, j, none⟩) hBg _
      case measure => simp [intOf]; omega
    · obtain rfl : j = n := by omega
      have hO := Lib.hid hown
      clear hown
      go_wp2
      go_ret
      exact ⟨by rw [hK.out]; rfl, by have := hO.out; rwa [List.drop_of_length_le (by rw [hL.out]; omega), List.append_nil] at this, hb⟩
theorem heldS_none (a : Option Addr) (cap : Nat) (k : Nat) (w : World) :
    Calls Try.prog 20 #[.slice a 0 cap, .int .i64 k] w fun e w' => e = .returned (.int .i64 k) ∧ w = w' := by
  go_enter Try.func20, Try.ntmps20
  go_wp2
  refine wp_loop_rounds 1 ?_
  rw [rounds_succ]
  go_wp2
  go_ret
  exact ⟨rfl, rfl⟩
set_option maxHeartbeats 1000000 in
theorem heldS_some (B g n cap k : Nat) (hk : 1 ≤ k) (hkn : k + n ≤ 2000000) (w : World) (hown : w.ownsRow B 9 1 (.slice (some ⟨g, 0, none⟩) n cap) n (marks k n)) :
    Calls Try.prog 20 #[.slice (some ⟨g, 0, none⟩) n cap, .int .i64 k] w fun e w' => e = .returned (.int .i64 ((k + n : Nat) : Int)) ∧ Below w.heap.size w w' := by
  have hgl : g < w.heap.size := (hown.lt g rfl).2
  have ho := Lib.hid hown
  clear hown
  go_enter Try.func20, Try.ntmps20
  go_wp2
  go_loopw [1, 5] (fun kv i wr => ∃ j kk : Nat, j ≤ n ∧ kk = k + j ∧ i = .int .i64 j ∧ kv = .int .i64 kk ∧ Below w.heap.size w wr) (fun _ i _ => n - (intOf i).toNat)
  case atStart => exact ⟨0, k, Nat.zero_le _, rfl, rfl, rfl, Below.refl _ _⟩
  case round =>
    obtain ⟨j, kk, hj, hkk, rfl, rfl, hb⟩ := hrel
    have k1 : 1 ≤ kk := by omega
    have k2 : kk ≤ 2000000 := by omega
    have hsz := hb.size
    have hK := Lib.hid hkk
    clear hkk
    by_cases hlt : j < n
    · have hc : wr.cell? ⟨g, j, none⟩ = some (.string (mark kk)) := by
        rw [hb.cell (p := ⟨g, j, none⟩) hgl, ho.out.cellAt j (by omega), marks_at k n j hlt, hK.out]
      go_wp2_with fail
      go_region_with (go_at_call 34; refine (mark_any kk k1 k2 _).mono ?_; rintro e w1 ⟨rfl, hb1⟩; have c1 : w1.cell? ⟨g, j, none⟩ = some (.string (mark kk)) := (hb1.cell (p := ⟨g, j, none⟩) (by show g < wr.heap.size; omega)).trans hc)
      all_goals
        go_wp2
        go_roundw
        case rel => exact ⟨j + 1, kk + 1, by omega, by rw [hK.out]; omega, by go_num, by go_num, by first | exact hb.drew.trans (hb1.mono (by show w.heap.size ≤ wr.heap.size; omega)) | exact hb.trans (hb1.mono (by show w.heap.size ≤ wr.heap.size; omega))⟩
        case measure => simp [intOf]; omega
    · obtain rfl : j = n := by omega
      go_wp2
      go_ret
      exact ⟨by rw [hK.out]; rfl, hb⟩
theorem eqS_none (a b : Option Addr) (c d : Nat) (w : World) :
    Calls Try.prog 18 #[.slice a 0 c, .slice b 0 d] w fun e w' => e = .returned (.bool true) ∧ w = w' := by
  go_enter Try.func18, Try.ntmps18
  go_wp2
  refine wp_loop_rounds 1 ?_
  rw [rounds_succ]
  go_wp2
  go_ret
  exact ⟨rfl, rfl⟩
set_option maxHeartbeats 1000000 in
theorem eqS_some (g h n c d : Nat) (xs : List ByteArray) (hn : n ≤ 140737488355328) (hl : xs.length = n) (w : World) (h1 : ∀ j x, xs[j]? = some x → w.cell? ⟨g, j, none⟩ = some (.string x)) (h2 : ∀ j x, xs[j]? = some x → w.cell? ⟨h, j, none⟩ = some (.string x)) :
    Calls Try.prog 18 #[.slice (some ⟨g, 0, none⟩) n c, .slice (some ⟨h, 0, none⟩) n d] w fun e w' => e = .returned (.bool true) ∧ ∃ q, w' = w.drewN q := by
  have H1 := Lib.hid h1
  have H2 := Lib.hid h2
  have hL := Lib.hid hl
  clear h1 h2 hl
  go_enter Try.func18, Try.ntmps18
  go_wp2
  go_loopw [5] (fun i wr => ∃ j : Nat, j ≤ n ∧ i = .int .i64 j ∧ ∃ q, wr = w.drewN q) (fun i _ => n - (intOf i).toNat)
  case atStart => exact ⟨0, Nat.zero_le _, rfl, 0, rfl⟩
  case round =>
    obtain ⟨j, hj, rfl, q, rfl⟩ := hrel
    by_cases hlt : j < n
    · have hx : ∃ x, xs[j]? = some x := ⟨xs[j]'(by rw [hL.out]; exact hlt), by simp⟩
      obtain ⟨x, hx⟩ := hx
      have c1 := H1.out j x hx
      have c2 := H2.out j x hx
      have hX := Lib.hid hx
      clear hx
      go_wp2
      go_quiet (fail)
      go_wp2
      go_roundw
      case rel => exact ⟨j + 1, by omega, by go_num, _, rfl⟩
      case measure => simp [intOf]; omega
    · go_wp2
      go_ret
      exact ⟨rfl, _, rfl⟩
end Go.Proofs.Ytlcgfohljkcngaa.Marks
