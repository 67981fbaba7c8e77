/- Lists of pairs in memory: the laws' comparing, numbering and reading back; what a law over a list holds whose answer is pairs. -/
import Derived.Test.YtikdcnlbjpabjaaLi
import Derived.Test.YtikdcnlbjpabjaaApp0
import Derived.Deep.RegionHeld3
import Derived.Deep.RegionWith
import Derived.BigQuiet
import Derived.Deep.Cut
import Derived.Deep.LoopGhost
namespace Go.Proofs.Ytikdcnlbjpabjaa.RaP
set_option linter.unusedVariables false
set_option linter.unusedSimpArgs false
open Go.ChangeShapes Go.WideShapes Go.ChangeAt Go.RowKit
open Mem IntsP LiP

theorem gen_world {X G : World → Prop} {W : World} (hx : X W) (h : ∀ W, X W → G W) : G W := h W hx
def c2 (s : Int × Int) : List Value := [.int .i64 s.1, .int .i64 s.2]
def cells2 (l : List (Int × Int)) : List Value := l.flatMap c2
theorem cells2_cons (s : Int × Int) (l : List (Int × Int)) : cells2 (s :: l) = .int .i64 s.1 :: .int .i64 s.2 :: cells2 l := rfl
theorem cells2_append (a b : List (Int × Int)) : cells2 (a ++ b) = cells2 a ++ cells2 b := by simp [cells2]
theorem cells2_length (l : List (Int × Int)) : (cells2 l).length = l.length * 2 := by
  induction l with
  | nil => rfl
  | cons s l ih => rw [cells2_cons]; simp only [List.length_cons, ih]; omega
theorem cells2_at : ∀ (l : List (Int × Int)) (j : Nat) (s : Int × Int), l[j]? = some s → (cells2 l)[j * 2]? = some (.int .i64 s.1) ∧ (cells2 l)[j * 2 + 1]? = some (.int .i64 s.2)
  | [], j, s, h => by simp at h
  | a :: l, 0, s, h => by
    obtain rfl : a = s := by simpa using h
    exact ⟨rfl, rfl⟩
  | a :: l, j + 1, s, h => by
    have := cells2_at l j s (by simpa using h)
    rw [show (j + 1) * 2 = j * 2 + 2 by omega, cells2_cons]
    simpa [show j * 2 + 2 + 1 = j * 2 + 1 + 2 by omega] using this

theorem infoP2 : (Try.prog.info? 50).map (fun i => (i.zero, i.size, i.bytes)) = some (some (.agg #[.int .i64 0, .int .i64 0]), 2, 16) := by kernel_rfl
abbrev Pr := Int × Int
theorem cells2_put : ∀ (l : List Pr) (j : Nat) (s s' : Pr) (o : Nat) (u : Value), l[j]? = some s → o < 2 → (c2 s).set o u = c2 s' → (cells2 l).set (j * 2 + o) u = cells2 (l.set j s')
  | [], j, s, s', o, u, h, _, _ => by simp at h
  | a :: l, 0, s, s', o, u, h, ho, he => by
    obtain rfl : a = s := by simpa using h
    have e : ∀ x, cells2 (x :: l) = c2 x ++ cells2 l := fun x => by simp [cells2]
    rw [e, Nat.zero_mul, Nat.zero_add, List.set_append_left _ _ (by show o < 2; exact ho), he, List.set_cons_zero, e]
  | a :: l, j + 1, s, s', o, u, h, ho, he => by
    have := cells2_put l j s s' o u (by simpa using h) ho he
    have e : ∀ l, cells2 (a :: l) = c2 a ++ cells2 l := fun l => by simp [cells2]
    have e2 : (c2 a).length = 2 := rfl
    rw [e, List.set_append_right _ _ (by rw [e2]; omega), e2, show (j + 1) * 2 + o - 2 = j * 2 + o by omega, this, List.set_cons_succ, e]
/-- A slice of pairs that reads as a list, in blocks below B. -/
def RdA (w : World) (B : Nat) (A : Option Addr) (xs : List Pr) : Prop :=
  ∀ j s, xs[j]? = some s → ∃ ad, A = some ad ∧ ad.block < B ∧ w.cell? (ad.add (j * 2)) = some (.int .i64 s.1) ∧ w.cell? ⟨(ad.add (j * 2)).block, (ad.add (j * 2)).off + 1, none⟩ = some (.int .i64 s.2)
theorem RdA.keep {w w' : World} {B : Nat} {A : Option Addr} {xs : List Pr} (h : RdA w B A xs) (hk : ∀ p : Addr, p.block < B → w'.cell? p = w.cell? p) : RdA w' B A xs :=
  fun j s hs => by
    obtain ⟨ad, e, hb, h0, h1⟩ := h j s hs
    have hb' : (ad.add (j * 2)).block < B := by rw [block_of_add]; exact hb
    exact ⟨ad, e, hb, (hk _ hb').trans h0, (hk ⟨_, _, none⟩ hb').trans h1⟩
theorem RdA.below {w w' : World} {B : Nat} {A : Option Addr} {xs : List Pr} (h : RdA w B A xs) (hb : Below B w w') : RdA w' B A xs := h.keep fun _ hp => hb.cell hp
/-- Pairs of the call's own. -/
def OwnA (w : World) (lo : Nat) (v : Value) (xs : List Pr) : Prop := w.ownsRow lo 50 2 v xs.length (cells2 xs)
theorem rdA_own {w : World} {B n c e : Nat} {A : Option Addr} {xs : List Pr} (h : w.ownsRow B e 2 (.slice A n c) n (cells2 xs)) : RdA w w.heap.size A xs := by
  intro j s hs
  have hn : xs.length = n := by have := h.1; rw [cells2_length] at this; omega
  have hj : j < xs.length := (List.getElem?_eq_some_iff.1 hs).1
  rcases own_form h with ⟨h0, _⟩ | ⟨_, g, cap, hv, _, hg⟩
  · omega
  · simp only [Value.slice.injEq, true_and] at hv
    obtain ⟨rfl, rfl⟩ := hv
    obtain ⟨c0, c1⟩ := cells2_at xs j s hs
    refine ⟨_, rfl, hg, ?_, ?_⟩ <;> rw [add_own]
    · rw [h.cellAt _ (by omega)]; exact c0
    · show w.cell? ⟨g, j * 2 + 1, none⟩ = _; rw [h.cellAt _ (by omega)]; exact c1
theorem OwnA.rd {w : World} {lo n c : Nat} {A : Option Addr} {xs : List Pr} (h : OwnA w lo (.slice A n c) xs) (hn : xs.length = n) : RdA w w.heap.size A xs := by
  unfold OwnA at h
  rw [hn] at h
  exact rdA_own h
theorem own_cell2 {w : World} {B e n g c : Nat} {xs : List Pr} (h : w.ownsRow B e 2 (.slice (some ⟨g, 0, none⟩) n c) n (cells2 xs)) {j : Nat} {s : Pr} (hs : xs[j]? = some s) :
    w.cell? ⟨g, j * 2, none⟩ = some (.int .i64 s.1) ∧ w.cell? ⟨g, j * 2 + 1, none⟩ = some (.int .i64 s.2) := by
  have hn : xs.length = n := by have := h.1; rw [cells2_length] at this; omega
  have hj : j < xs.length := (List.getElem?_eq_some_iff.1 hs).1
  obtain ⟨c0, c1⟩ := cells2_at xs j s hs
  exact ⟨(h.cellAt _ (by omega)).trans c0, (h.cellAt _ (by omega)).trans c1⟩
theorem own_put2 {w : World} {B e n g cap : Nat} {xs : List Pr} (h : w.ownsRow B e 2 (.slice (some ⟨g, 0, none⟩) n cap) n (cells2 xs)) {j : Nat} {s : Pr} (hs : xs[j]? = some s) (o : Nat) (u : Value) (s' : Pr) (ho : o < 2) (he : (c2 s).set o u = c2 s') :
    (w.setCell ⟨g, j * 2 + o, none⟩ u).ownsRow B e 2 (.slice (some ⟨g, 0, none⟩) n cap) n (cells2 (xs.set j s')) := by
  have := (h.stored (j * 2 + o) u).1
  rwa [cells2_put xs j s s' o u hs ho he] at this

def mkA (m : Int) : Pr := (m, m + 1)
def marksA (k : Int) (n : Nat) : List Pr := (List.range n).map (fun (i : Nat) => mkA (k + 2 * i))
theorem marksA_length (k : Int) (n : Nat) : (marksA k n).length = n := by simp [marksA]
theorem marksA_at (k : Int) (n i : Nat) (h : i < n) : (marksA k n)[i]? = some (mkA (k + 2 * i)) := by simp [marksA, h]
theorem marksA_succ (k : Int) (n : Nat) : marksA k (n + 1) = marksA k n ++ [mkA (k + 2 * n)] := by simp [marksA, List.range_succ]
theorem marksA_set (k : Int) (xs : List Pr) (i : Nat) (hi : i < xs.length) : (marksA k i ++ xs.drop i).set i (mkA (k + 2 * i)) = marksA k (i + 1) ++ xs.drop (i + 1) := by
  rw [List.set_append_right _ _ (by rw [marksA_length]; exact Nat.le_refl _), marksA_length, Nat.sub_self, List.drop_eq_getElem_cons hi, List.set_cons_zero, marksA_succ, List.append_assoc]
  rfl
theorem own_set2 {w : World} {B e n g cap : Nat} {xs : List Pr} (h : w.ownsRow B e 2 (.slice (some ⟨g, 0, none⟩) n cap) n (cells2 xs)) {j : Nat} {s : Pr} (hs : xs[j]? = some s) (s' : Pr) :
    ((w.setCell ⟨g, j * 2, none⟩ (.int .i64 s'.1)).setCell ⟨g, j * 2 + 1, none⟩ (.int .i64 s'.2)).ownsRow B e 2 (.slice (some ⟨g, 0, none⟩) n cap) n (cells2 (xs.set j s')) := by
  have hj : j < xs.length := (List.getElem?_eq_some_iff.1 hs).1
  have h0 := own_put2 h hs 0 (.int .i64 s'.1) (s'.1, s.2) (by decide) rfl
  have h1 := own_put2 h0 (List.getElem?_set_self hj) 1 (.int .i64 s'.2) s' (by decide) rfl
  rw [List.set_set] at h1
  exact h1

theorem eqIntA2_same (a b : Int) (w : World) :
    Calls Try.prog 36 #[.agg #[.int .i64 a, .int .i64 b], .agg #[.int .i64 a, .int .i64 b]] w fun e w' => e = .returned (.bool true) ∧ Below w.heap.size w w' := by
  go_enter Try.func36, Try.ntmps36
  go_upto_region 1 with fail
  change (fun V => Code.wp _ _ _ _ V) _
  refine gen_world (X := fun V => Blk V w.heap.size 50 #[.int .i64 a, .int .i64 b] ∧ Blk V (w.heap.size + 1) 50 #[.int .i64 a, .int .i64 b] ∧ Below w.heap.size w V) ⟨heap2_0 w _ _, heap2_1 w _ _, ((Below.refl _ _).alloc (Nat.le_refl _) _).alloc (by simp) _⟩ ?_
  rintro V ⟨x0, x1, b⟩
  generalize w.heap.size + 1 = g1 at *
  have B := Lib.hid b
  have X0 := Lib.hid x0
  have X1 := Lib.hid x1
  clear b x0 x1
  go_wp2_with fail
  go_loopw [5] (fun i wr => ∃ k : Nat, k ≤ 2 ∧ i = .int .i64 k ∧ Below w.heap.size w wr ∧ Blk wr w.heap.size 50 #[.int .i64 a, .int .i64 b] ∧ Blk wr g1 50 #[.int .i64 a, .int .i64 b]) (fun i _ => 2 - (intOf i).toNat)
  case atStart => exact ⟨0, Nat.zero_le _, rfl, B.out, X0.out, X1.out⟩
  case round =>
    obtain ⟨k, hk, rfl, hb, y0, y1⟩ := hrel
    clear B X0 X1
    have HB := Lib.hid (⟨hb.drew, y0, y1⟩ : Below w.heap.size w wr.drew ∧ Blk wr.drew w.heap.size 50 #[.int .i64 a, .int .i64 b] ∧ Blk wr.drew g1 50 #[.int .i64 a, .int .i64 b])
    have HB0 := Lib.hid hb
    have h3 : k = 0 ∨ k = 1 ∨ k = 2 := by omega
    rcases h3 with rfl | rfl | rfl
    · have p0 : wr.cell? ⟨w.heap.size, 0, none⟩ = some (.int .i64 a) := y0.cells 0
      have p1 : wr.cell? ⟨g1, 0, none⟩ = some (.int .i64 a) := y1.cells 0
      clear y0 y1 hb
      go_wp2_with fail
      go_region
      all_goals
        go_wp2_with fail
        go_roundw
        case rel => exact ⟨1, by omega, rfl, HB.out.1, HB.out.2.1, HB.out.2.2⟩
        case measure => simp [intOf]
    · have p0 : wr.cell? ⟨w.heap.size, 1, none⟩ = some (.int .i64 b) := y0.cells 1
      have p1 : wr.cell? ⟨g1, 1, none⟩ = some (.int .i64 b) := y1.cells 1
      clear y0 y1 hb
      go_wp2_with fail
      go_region
      all_goals
        go_wp2_with fail
        go_roundw
        case rel => exact ⟨2, by omega, rfl, HB.out.1, HB.out.2.1, HB.out.2.2⟩
        case measure => simp [intOf]
    · clear y0 y1 hb
      go_wp2_with fail
      go_ret
      exact ⟨rfl, HB0.out⟩
theorem eqIntA2S_same (B : Nat) (A A' : Option Addr) (n c c' : Nat) (xs : List Pr) (hn : n ≤ 9223372036854775807) (hl : xs.length = n) (w : World) (hr : RdA w B A xs) (hr' : RdA w B A' xs) (hB : B ≤ w.heap.size) :
    Calls Try.prog 18 #[.slice A n c, .slice A' n c'] w fun e w' => e = .returned (.bool true) ∧ Below w.heap.size w w' := by
  have hR := Lib.hid hr
  have hR' := Lib.hid hr'
  have hL := Lib.hid hl
  clear hr hr' hl
  go_enter Try.func18, Try.ntmps18
  go_wp2
  go_loopw [5] (fun i wr => ∃ k : Nat, k ≤ n ∧ i = .int .i64 k ∧ Below w.heap.size w wr) (fun i _ => n - (intOf i).toNat)
  case atStart => exact ⟨0, Nat.zero_le _, rfl, Below.refl _ _⟩
  case round =>
    obtain ⟨k, hk, rfl, hb⟩ := hrel
    by_cases hlt : k < n
    · obtain ⟨⟨s0, s1⟩, hs⟩ : ∃ s, xs[k]? = some s := ⟨_, List.getElem?_eq_getElem (by rw [hL.out]; exact hlt)⟩
      obtain ⟨ad, rfl, hab, h0, h1⟩ := (hR.out.below (hb.mono hB)) k _ hs
      obtain ⟨ad', rfl, hab', h0', h1'⟩ := (hR'.out.below (hb.mono hB)) k _ hs
      have hsz := hb.size
      clear hs
      dsimp only at h0 h1 h0' h1'
      go_wp2_with fail
      go_region_with (go_at_call 36; refine (eqIntA2_same _ _ _).mono ?_; rintro e w1 ⟨rfl, hb1⟩)
      all_goals
        go_wp2
        go_roundw
        case rel => exact ⟨k + 1, by omega, by go_num, hb.trans ((below_undrew hb1).mono hsz)⟩
        case measure => simp [intOf]; omega
    · go_wp2
      go_ret
      exact ⟨rfl, hb⟩
def mid (wr : World) (g j : Nat) (m : Int) : Nat → World
  | 0 => wr
  | 1 => wr.setCell ⟨g, j * 2, none⟩ (.int .i64 m)
  | _ => (wr.setCell ⟨g, j * 2, none⟩ (.int .i64 m)).setCell ⟨g, j * 2 + 1, none⟩ (.int .i64 (m + 1))
def MarkedA (B n c : Nat) (A : Option Addr) (k : Int) (w : World) (e : Ending) (w' : World) : Prop :=
  e = .returned (.int .i64 (k + 2 * n)) ∧ w'.ownsRow B 50 2 (.slice A n c) n (cells2 (marksA k n)) ∧ Chg (fun b => (Value.slice A n c).ownBlock = some b) w w'
set_option maxHeartbeats 4000000 in
theorem markIntA2S_any (B n c : Nat) (A : Option Addr) (xs : List Pr) (k : Int) (hn : n ≤ 2000000) (hl : xs.length = n) (hk0 : 0 ≤ k) (hk : k ≤ 20000000000) (w : World)
    (ho : w.ownsRow B 50 2 (.slice A n c) n (cells2 xs)) :
    Calls Try.prog 20 #[.slice A n c, .int .i64 k] w (MarkedA B n c A k w) := by
  have hO0 := Lib.hid ho
  have hL := Lib.hid hl
  clear ho hl
  go_enter Try.func20, Try.ntmps20
  go_wp2
  go_loopg [1, 5] n (fun kk v i wr => ∃ (j : Nat) (m : Int), j ≤ n ∧ n - j = kk ∧ i = .int .i64 j ∧ v = .int .i64 m ∧ 0 ≤ m ∧ m ≤ 20000000000 + 2 * j ∧ Hid (m = k + 2 * j) ∧ wr.ownsRow B 50 2 (.slice A n c) n (cells2 (marksA k j ++ xs.drop j)) ∧
      Chg (fun b => (Value.slice A n c).ownBlock = some b) w wr)
  case atStart => exact ⟨0, k, Nat.zero_le _, by omega, rfl, rfl, hk0, by omega, Lib.hid (by omega), by simpa [marksA] using hO0.out, Chg.refl _ _⟩
  case round =>
    obtain ⟨j, m, hj, hkk, rfl, rfl, m0, m1, hM, hown, hch⟩ := hrel
    have m2 : m ≤ 37000000000 := by omega
    have HK := Lib.hid hkk
    clear hkk
    by_cases hlt : j < n
    · have hO := Lib.hid hown
      have hC := Lib.hid hch
      rcases own_form hown with ⟨h0, _⟩ | ⟨_, g, cap, hv, _, hg⟩
      · omega
      · simp only [Value.slice.injEq, true_and] at hv
        obtain ⟨rfl, rfl⟩ := hv
        obtain ⟨s, hs⟩ : ∃ s, (marksA k j ++ xs.drop j)[j]? = some s := ⟨_, List.getElem?_eq_getElem (by rw [List.length_append, marksA_length, List.length_drop, hL.out]; omega)⟩
        obtain ⟨g0, g1⟩ := own_cell2 hown hs
        have HS := Lib.hid hs
        have f := hown.frozenAt
        clear hown hch hs
        go_wp2_with fail
        go_loopg [1, 6] 2 (fun kk v i wi => ∃ q : Nat, q ≤ 2 ∧ 2 - q = kk ∧ i = .int .i64 q ∧ v = .int .i64 (m + q) ∧ wi = mid wr g j m q)
        case atStart => exact ⟨0, by omega, rfl, rfl, by simp, rfl⟩
        case round =>
          obtain ⟨q, hq, hqk, rfl, rfl, rfl⟩ := hrel
          have HQ := Lib.hid hqk
          clear hqk
          have h3 : q = 0 ∨ q = 1 ∨ q = 2 := by omega
          rcases h3 with rfl | rfl | rfl
          · unfold mid
            go_wp2_with fail
            go_roundg 1
            case measure => have := HQ.out; omega
            case rel => exact ⟨1, by omega, rfl, rfl, by go_num, rfl⟩
          · unfold mid
            go_wp2_with fail
            go_roundg 0
            case measure => have := HQ.out; omega
            case rel => exact ⟨2, by omega, rfl, rfl, by go_num, rfl⟩
          · unfold mid
            go_wp2_with fail
            go_roundg (n - (j + 1))
            case measure => have := HK.out; omega
            case rel =>
              refine ⟨j + 1, m + 1 + 1, by omega, rfl, by go_num, by go_num, by omega, by omega, Lib.hid (by rw [hM.out]; omega), ?_, ?_⟩
              · rw [← marksA_set k xs j (by rw [hL.out]; exact hlt), ← hM.out]
                exact own_set2 hO.out HS.out (mkA m)
              · refine Chg.put (Chg.put hC.out _ _ ?_) _ _ ?_ <;> exact .inr rfl
    · obtain rfl : j = n := by omega
      have hO := Lib.hid hown
      have hC := Lib.hid hch
      clear hown hch
      go_wp2_with fail
      go_ret
      refine ⟨by rw [hM.out]; rfl, ?_, hC.out⟩
      have := hO.out
      rwa [List.drop_eq_nil_of_le (by rw [hL.out]; omega), List.append_nil] at this
set_option maxHeartbeats 4000000 in
theorem heldIntA2S_any (B n c : Nat) (A : Option Addr) (k : Int) (hn : n ≤ 2000000) (hk0 : 0 ≤ k) (hk : k ≤ 20000000000) (w : World) (hr : RdA w B A (marksA k n)) :
    Calls Try.prog 21 #[.slice A n c, .int .i64 k] w fun e w' => e = .returned (.int .i64 (k + 2 * n)) ∧ w = w' := by
  have hR := Lib.hid hr
  clear hr
  go_enter Try.func21, Try.ntmps21
  go_wp2
  go_loopg [1, 5] n (fun kk v i wr => ∃ (j : Nat) (m : Int), j ≤ n ∧ n - j = kk ∧ i = .int .i64 j ∧ v = .int .i64 m ∧ 0 ≤ m ∧ m ≤ 20000000000 + 2 * j ∧ Hid (m = k + 2 * j) ∧ wr = w)
  case atStart => exact ⟨0, k, Nat.zero_le _, by omega, rfl, rfl, hk0, by omega, Lib.hid (by omega), rfl⟩
  case round =>
    obtain ⟨j, m, hj, hkk, rfl, rfl, m0, m1, hM, rfl⟩ := hrel
    have m2 : m ≤ 37000000000 := by omega
    have HK := Lib.hid hkk
    clear hkk
    by_cases hlt : j < n
    · have hs := marksA_at k n j hlt
      rw [← hM.out] at hs
      obtain ⟨ad, rfl, hab, h0, h1⟩ := hR.out j _ hs
      clear hs
      dsimp only [mkA] at h0 h1
      go_wp2_with fail
      go_loopg [1, 6] 2 (fun kk v i wi => ∃ q : Nat, q ≤ 2 ∧ 2 - q = kk ∧ i = .int .i64 q ∧ v = .int .i64 (m + q) ∧ wi = wr)
      case atStart => exact ⟨0, by omega, rfl, rfl, by simp, rfl⟩
      case round =>
        obtain ⟨q, hq, hqk, rfl, rfl, rfl⟩ := hrel
        have HQ := Lib.hid hqk
        clear hqk
        have h3 : q = 0 ∨ q = 1 ∨ q = 2 := by omega
        rcases h3 with rfl | rfl | rfl
        · go_wp2_with fail
          go_roundg 1
          case measure => have := HQ.out; omega
          case rel => exact ⟨1, by omega, rfl, rfl, by go_num, rfl⟩
        · go_wp2_with fail
          go_roundg 0
          case measure => have := HQ.out; omega
          case rel => exact ⟨2, by omega, rfl, rfl, by go_num, rfl⟩
        · go_wp2_with fail
          go_roundg (n - (j + 1))
          case measure => have := HK.out; omega
          case rel => exact ⟨j + 1, m + 1 + 1, by omega, rfl, by go_num, by go_num, by omega, by omega, Lib.hid (by rw [hM.out]; omega), rfl⟩
    · obtain rfl : j = n := by omega
      go_wp2_with fail
      go_ret
      exact ⟨by rw [hM.out]; rfl, rfl⟩
def PrsR (r : List Pr × Bool) (w : World) (e : Ending) (w' : World) : Prop :=
  ∃ A c, e = .returned (.tuple #[.slice A r.1.length c, .bool r.2]) ∧ OwnA w' w.heap.size (.slice A r.1.length c) r.1 ∧ Below w.heap.size w w'
/-- A list of the call's own in blocks between two bounds. -/
def OwnAH (w : World) (lo hi : Nat) (v : Value) (xs : List Pr) : Prop := OwnA w lo v xs ∧ ∀ k, v.ownBlock = some k → k < hi
theorem OwnAH.of {w : World} {lo : Nat} {v : Value} {xs : List Pr} (h : OwnA w lo v xs) : OwnAH w lo w.heap.size v xs := ⟨h, fun k hk => (World.ownsRow.lt h k hk).2⟩
theorem OwnAH.keep {w w' : World} {lo hi : Nat} {v : Value} {xs : List Pr} (h : OwnAH w lo hi v xs) (hk : ∀ b, lo ≤ b → b < hi → w'.heap[b]? = w.heap[b]?) : OwnAH w' lo hi v xs := by
  obtain ⟨⟨h1, h2⟩, hh⟩ := h
  refine ⟨⟨h1, ?_⟩, hh⟩
  rcases h2 with h0 | ⟨g, cap, cur, rfl, hB, hg, r⟩
  · exact .inl h0
  · exact .inr ⟨g, cap, cur, rfl, hB, by rw [hk g hB (hh g rfl)]; exact hg, r⟩
theorem OwnAH.below {w w' : World} {lo hi : Nat} {v : Value} {xs : List Pr} (h : OwnAH w lo hi v xs) (hb : Below hi w w') : OwnAH w' lo hi v xs := h.keep fun b _ hb' => hb.block b hb'
theorem OwnAH.chg {C : Nat → Prop} {w w' : World} {lo hi : Nat} {v : Value} {xs : List Pr} (h : OwnAH w lo hi v xs) (hb : Chg C w w') (hh : hi ≤ w.heap.size) (hC : ∀ k, lo ≤ k → k < hi → ¬ C k) : OwnAH w' lo hi v xs :=
  h.keep fun b h1 h2 => hb.block b (by omega) (hC b h1 h2)


structure StX (w : World) (vw vx vg : Value) (Lw Hw Lx Hx Lg Hg : Nat) (qw : List Pr) (px : List Int) (qg : List Pr) (W : World) : Prop where
  below : Below w.heap.size w W
  ow : OwnAH W Lw Hw vw qw
  ox : OwnIH W Lx Hx vx px
  og : OwnAH W Lg Hg vg qg
  ord : w.heap.size ≤ Lw ∧ Lw ≤ Hw ∧ Hw ≤ Lx ∧ Lx ≤ Hx ∧ Hx ≤ Lg ∧ Lg ≤ Hg ∧ Hg ≤ W.heap.size
section
variable {w : World} {vw vx vg : Value} {Lw Hw Lx Hx Lg Hg : Nat} {qw : List Pr} {px : List Int} {qg : List Pr} {W W' : World}
theorem StX.next (h : StX w vw vx vg Lw Hw Lx Hx Lg Hg qw px qg W) (b : Below W.heap.size W W') : StX w vw vx vg Lw Hw Lx Hx Lg Hg qw px qg W' := by
  have o := h.ord
  have s := b.size
  exact ⟨h.below.trans (b.mono h.below.size), h.ow.below (b.mono (by omega)), h.ox.below (b.mono (by omega)), h.og.below (b.mono (by omega)), by omega⟩
theorem StX.markX {px' : List Int} (h : StX w vw vx vg Lw Hw Lx Hx Lg Hg qw px qg W) (b : Chg (fun k => vx.ownBlock = some k) W W') (o' : OwnI W' Lx vx px') : StX w vw vx vg Lw Hw Lx Hx Lg Hg qw px' qg W' := by
  have o := h.ord
  have s := b.size
  have s0 := h.below.size
  have hg : ∀ k, vx.ownBlock = some k → Lx ≤ k ∧ k < Hx := fun k hk => ⟨(World.ownsRow.lt h.ox.1 k hk).1, h.ox.2 k hk⟩
  exact ⟨h.below.trans (b.below (by omega) (fun x hx hc => by have := hg x hc; omega)), h.ow.chg b (by omega) (fun k h1 h2 hc => by have := hg k hc; omega), ⟨o', h.ox.2⟩, h.og.chg b (by omega) (fun k h1 h2 hc => by have := hg k hc; omega), by omega⟩
theorem StX.markG {qg' : List Pr} (h : StX w vw vx vg Lw Hw Lx Hx Lg Hg qw px qg W) (b : Chg (fun k => vg.ownBlock = some k) W W') (o' : OwnA W' Lg vg qg') : StX w vw vx vg Lw Hw Lx Hx Lg Hg qw px qg' W' := by
  have o := h.ord
  have s := b.size
  have s0 := h.below.size
  have hg : ∀ k, vg.ownBlock = some k → Lg ≤ k ∧ k < Hg := fun k hk => ⟨(World.ownsRow.lt h.og.1 k hk).1, h.og.2 k hk⟩
  exact ⟨h.below.trans (b.below (by omega) (fun x hx hc => by have := hg x hc; omega)), h.ow.chg b (by omega) (fun k h1 h2 hc => by have := hg k hc; omega), h.ox.chg b (by omega) (fun k h1 h2 hc => by have := hg k hc; omega), ⟨o', h.og.2⟩, by omega⟩
end
end Go.Proofs.Ytikdcnlbjpabjaa.RaP
