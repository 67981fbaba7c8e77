import Derived.Test.YtikdcnlbjpabjabM3
import Derived.Test.YtikdcnlbjpabjabM10
set_option linter.all false
namespace Go.Proofs.Ytikdcnlbjpabjab.CplP
open Lib (hid)
open Go.ChangeShapes Go.WideShapes Go.ChangeAt Go.RowKit
open PL Mem To
def resB (x : Int) : Bool := decide (1 ≤ x) && decide (x ≤ 32767)
def halfP (a : Int) : List Tr := [(1, 2, a), (3, 2, 0), (1, 3, -a), (5, 1, 3)]
def cleanP (a b : Int) : Pg := [halfP a ++ halfP b, [(3, 0, 0)]]
def cleanR (a b : Int) : Pg × Bool := if resB a = true ∧ resB b = true then (cleanP a b, true) else ([], false)
theorem resB_yes {x : Int} (h : resB x = true) : 1 ≤ x ∧ x ≤ 32767 := by unfold resB at h; simpa using h
theorem resB_btw (x : Int) : StpS.btw x 1 32767 = resB x := by
 unfold resB StpS.btw
 rfl
theorem cells3_one (l : List Tr) : ∀ u ∈ cells3 l, u.oneCell' = true := by
 induction l with
 | nil => intro u hu; simp [cells3] at hu
 | cons s l ih =>
  intro u hu
  rw [cells3_cons] at hu
  rcases List.mem_cons.1 hu with rfl | hu
  ·rfl
  rcases List.mem_cons.1 hu with rfl | hu
  ·rfl
  rcases List.mem_cons.1 hu with rfl | hu
  ·rfl
  exact ih u hu
theorem own_nil (w : World) (lo : Nat) : OwnP w lo (.slice none 0 0) [] := ⟨[], rfl, ⟨rfl, .inl ⟨rfl, rfl⟩⟩, fun _ _ h => by simp at h, fun _ _ _ _ _ h => by simp at h⟩
theorem prog_own {W : World} {lo b g : Nat} {u1 : Value} {xs : List Tr} (h1 : W.ownsRow lo 74 3 u1 xs.length (cells3 xs)) (hb : W.heap[b]? = some (.cells #[.int .i64 3, .int .i64 0, .int .i64 0] 74)) (hlb : lo ≤ b) (hlg : lo ≤ g)
  (hne : u1.ownBlock ≠ some b) (h3 : W.heap[g]? = some (.cells #[u1, .slice (some ⟨b, 0, none⟩) 1 1] 71)) : OwnP W lo (.slice (some ⟨g, 0, none⟩) 2 2) [xs, [(3, 0, 0)]] := by
 refine ⟨[u1, .slice (some ⟨b, 0, none⟩) 1 1], rfl, ⟨rfl, .inr ⟨g, 2, _, rfl, hlg, h3, Nat.le_refl _, by unfold maxLen; omega, rfl, rfl⟩⟩, ?_, ?_⟩
 ·intro i ys hx
  match i, hx with
  | 0, hx =>
   obtain rfl : xs = ys := by simpa using hx
   exact ⟨_, rfl, h1⟩
  | 1, hx =>
   obtain rfl : [(3, 0, 0)] = ys := by simpa using hx
   exact ⟨_, rfl, ⟨rfl, .inr ⟨b, 1, _, rfl, hlb, hb, by decide, by decide, rfl, rfl⟩⟩⟩
  | i + 2, hx => simp at hx
 ·intro i j u u' k hi hj hu hu'
  have hi2 : i < 2 := (List.getElem?_eq_some_iff.1 hi).1
  have hj2 : j < 2 := (List.getElem?_eq_some_iff.1 hj).1
  match i, j, hi2, hj2, hi, hj with
  | 0, 0, _, _, _, _ => rfl
  | 1, 1, _, _, _, _ => rfl
  | 0, 1, _, _, hi, hj =>
   obtain rfl := Option.some.inj hi
   obtain rfl := Option.some.inj hj
   have hk : some b = some k := hu'
   exact absurd (hu.trans hk.symm) hne
  | 1, 0, _, _, hi, hj =>
   obtain rfl := Option.some.inj hi
   obtain rfl := Option.some.inj hj
   have hk : some b = some k := hu
   exact absurd (hu'.trans hk.symm) hne
def ProgR (r : Pg × Bool) (w : World) (e : Ending) (w' : World) : Prop :=
 ∃ A c, e = .returned (.tuple #[.agg #[.slice A r.1.length c], .bool r.2]) ∧ OwnP w' w.heap.size (.slice A r.1.length c) r.1 ∧ Below w.heap.size w w'
theorem isRes_any (x : Int) (w : World) : Calls Try.prog 48 #[.int .i64 x] w fun e w' => e = .returned (.bool (resB x)) ∧ w = w' := by
 by_cases h1 : 1 ≤ x
 ·by_cases h2 : x ≤ 32767
  ·have hs := hid (show resB x = true by unfold resB; rw [decide_eq_true h1, decide_eq_true h2]; rfl)
   go_enter Try.func48, Try.ntmps48
   go_wp2
   go_ret
   exact ⟨by rw [hs.out]; rfl, rfl⟩
  ·have hs := hid (show resB x = false by unfold resB; rw [decide_eq_false h2]; simp)
   go_enter Try.func48, Try.ntmps48
   go_wp2
   go_ret
   exact ⟨by rw [hs.out]; rfl, rfl⟩
 ·have hs := hid (show resB x = false by unfold resB; rw [decide_eq_false h1]; rfl)
  go_enter Try.func48, Try.ntmps48
  go_wp2
  go_ret
  exact ⟨by rw [hs.out]; rfl, rfl⟩
set_option maxRecDepth 100000 in
theorem half_any (a : Int) (ha : 1 ≤ a ∧ a ≤ 32767) (w : World) : Calls Try.prog 49 #[.int .i64 a] w fun e w' => e = .returned (.slice (some ⟨w.heap.size, 0, none⟩) 4 4) ∧
  w'.ownsRow w.heap.size 74 3 (.slice (some ⟨w.heap.size, 0, none⟩) 4 4) 4 (cells3 (halfP a)) ∧ Below w.heap.size w w' := by
 obtain ⟨a1, a2⟩ := ha
 go_enter Try.func49, Try.ntmps49
 go_wp2
 go_ret
 exact ⟨rfl, ⟨rfl, .inr ⟨w.heap.size, 4, _, rfl, Nat.le_refl _, heap1_0 w _, by decide, by decide, rfl, rfl⟩⟩, (Below.refl _ _).alloc (Nat.le_refl _) _⟩
theorem gen_world7 {X G : World → Prop} {W : World} (hx : X W) (h : ∀ W, X W → G W) : G W := h W hx
theorem blk2 {w : World} {g : Nat} {T : TypeId} {cs : Array Value} (h : Blk w g T cs) (o o' : Obj) : Blk ((w.alloc o).alloc o') g T cs := (h.alloc o).alloc o'
theorem cpl_end {w w4 : World} {A4 : Option Addr} {c4 n lo1 : Nat} {v0 : Value} {xs : List Tr} (hx : Blk w4 w.heap.size 31 #[v0]) (hb : Below w.heap.size w w4)
  (ho : w4.ownsRow lo1 74 3 (.slice A4 n c4) xs.length (cells3 xs)) (hlo : w.heap.size < lo1) {V : World}
  (hV : V = ((w4.alloc (.cells #[.int .i64 3, .int .i64 0, .int .i64 0] 74)).alloc (.cells #[.slice A4 n c4, .slice (some ⟨w4.heap.size, 0, none⟩) 1 1] 71)).setCell ⟨w.heap.size, 0, none⟩ (.slice (some ⟨w4.heap.size + 1, 0, none⟩) 2 2)) :
  V.cell? ⟨w.heap.size, 0, none⟩ = some (.slice (some ⟨w4.heap.size + 1, 0, none⟩) 2 2) ∧ OwnP V w.heap.size (.slice (some ⟨w4.heap.size + 1, 0, none⟩) 2 2) [xs, [(3, 0, 0)]] ∧ Below w.heap.size w V := by
 have s4 := hb.size
 have hlt := hx.lt
 subst hV
 have bal : ∀ o o' : Obj, Below w4.heap.size w4 ((w4.alloc o).alloc o') := fun o o' => ((Below.refl _ _).alloc (Nat.le_refl _) _).alloc (by simp) _
 have hne : ∀ k, (Value.slice A4 n c4).ownBlock = some k → w.heap.size < k ∧ k < w4.heap.size := fun k hk => by have := World.ownsRow.lt ho k hk; omega
 refine ⟨((blk2 hx _ _).put 0 _).cells 0, ?_, ((hb.alloc s4 _).alloc (by rw [World.size_alloc]; omega) _).setCell (p := ⟨w.heap.size, 0, none⟩) (Nat.le_refl _) _⟩
 refine prog_own (b := w4.heap.size) ?_ ?_ s4 (by omega) (fun hc => by have := (hne _ hc).2; omega) ?_
 ·exact own_mono (own_far (own_below ho (bal _ _) (Nat.le_refl _)) _ _ (fun hc => by have : w.heap.size < w.heap.size := (hne _ hc).1; omega)) (by omega)
 ·exact Blk.far (heap2_0 w4 _ _) _ _ (by show w4.heap.size ≠ w.heap.size; omega)
 ·exact Blk.far (heap2_1 w4 _ _) _ _ (by show w4.heap.size + 1 ≠ w.heap.size; omega)
set_option maxRecDepth 100000 in
set_option maxHeartbeats 4000000 in
theorem cplI_any (a b : Int) (w : World) : Calls Try.prog 19 #[.int .i64 a, .int .i64 b] w (ProgR (cleanR a b) w) := by
 have hA := hid (fun W => isRes_any a W)
 have hB := hid (fun W => isRes_any b W)
 cases ha : resB a with
 | false =>
  have hs := hid (show cleanR a b = ([], false) by unfold cleanR; rw [ha]; rfl)
  rw [ha] at hA
  clear ha hB
  go_enter Try.func19, Try.ntmps19
  go_wp2_with fail
  refine (hA.out _).mono ?_
  rintro e w1 ⟨rfl, rfl⟩
  go_wp2_with fail
  refine bodyPost_ret (v := .tuple #[.agg #[.slice none 0 0], .bool false]) (by simp [results, Try.results19, go_sem]) rfl ?_
  rw [hs.out]
  exact ⟨none, 0, rfl, own_nil _ _, (Below.refl _ _).alloc (Nat.le_refl _) _⟩
 | true =>
 cases hb : resB b with
 | false =>
  have hs := hid (show cleanR a b = ([], false) by unfold cleanR; rw [ha, hb]; rfl)
  rw [ha] at hA
  rw [hb] at hB
  clear ha hb
  go_enter Try.func19, Try.ntmps19
  go_wp2_with fail
  refine (hA.out _).mono ?_
  rintro e w1 ⟨rfl, rfl⟩
  go_wp2_with fail
  refine (hB.out _).mono ?_
  rintro e w1 ⟨rfl, rfl⟩
  go_wp2_with fail
  refine bodyPost_ret (v := .tuple #[.agg #[.slice none 0 0], .bool false]) (by simp [results, Try.results19, go_sem]) rfl ?_
  rw [hs.out]
  exact ⟨none, 0, rfl, own_nil _ _, (Below.refl _ _).alloc (Nat.le_refl _) _⟩
 | true =>
  have hs := hid (show cleanR a b = (cleanP a b, true) by unfold cleanR; rw [ha, hb]; rfl)
  obtain ⟨i0, hi, hz0, hz1, hz2⟩ := info_parts infoStep
  have hHA := hid (fun W => half_any a (resB_yes ha) W)
  have hHB := hid (fun W => half_any b (resB_yes hb) W)
  rw [ha] at hA
  rw [hb] at hB
  clear ha hb
  go_enter Try.func19, Try.ntmps19
  go_wp2_with fail
  refine (hA.out _).mono ?_
  rintro e w1 ⟨rfl, rfl⟩
  go_wp2_with fail
  refine (hB.out _).mono ?_
  rintro e w1 ⟨rfl, rfl⟩
  obtain ⟨w1, hw1⟩ : ∃ w1, w.alloc (.cells #[.slice none 0 0] 31) = w1 := ⟨_, rfl⟩
  have X1 : Blk w1 w.heap.size 31 #[.slice none 0 0] := by rw [← hw1]; exact heap1_0 w _
  have B1 : Below w.heap.size w w1 := by rw [← hw1]; exact (Below.refl _ _).alloc (Nat.le_refl _) _
  have s1 : w.heap.size < w1.heap.size := by rw [← hw1]; simp
  rw [hw1]
  clear hw1
  go_wp2_with fail
  refine (hHA.out _).mono ?_
  rintro e w2 ⟨rfl, o2, b2⟩
  have s2 := b2.size
  go_wp2_with fail
  refine (hHB.out _).mono ?_
  rintro e w3 ⟨rfl, o3, b3⟩
  have s3 := b3.size
  have O2 := hid (own_below o2 b3 (Nat.le_refl _))
  have O3 := hid o3
  have X3 := hid ((X1.below b2 X1.lt).below b3 (X1.below b2 X1.lt).lt)
  have B3 := hid ((B1.trans (b2.mono B1.size)).trans (b3.mono (B1.trans (b2.mono B1.size)).size))
  clear o2 o3 b2 b3 X1 B1
  go_wp2_with (first
   | (at_builtin; refine App.row_list _ rfl (.tmp 16) (.tmp 18) 71 rfl w1.heap.size w2.heap.size 74 i0 _ 3 24 Try.underlying71 hi hz0 hz1 hz2 rfl (by decide) (.slice (some ⟨w1.heap.size, 0, none⟩) 4 4) 4 (cells3 (halfP a)) rfl O2.out (.slice (some ⟨w2.heap.size, 0, none⟩) 4 4) 4 (cells3 (halfP b)) rfl O3.out (cells3_one _) (by unfold maxLen; omega) (by omega) (by omega) ?_)
   | go_in)
  intro v4 w4 o4 g4 t4
  have X4 : Blk w4 w.heap.size 31 #[.slice none 0 0] := X3.out.chg (Chg.of_grown g4) (fun hc => by have := (World.ownsRow.lt O2.out _ hc.symm).1; omega)
  have B4 : Below w.heap.size w w4 := B3.out.trans ((Chg.of_grown g4).below B3.out.size (fun x hx hc => by have := (World.ownsRow.lt O2.out _ hc.symm).1; omega))
  have O4 := hid (show w4.ownsRow w1.heap.size 74 3 v4 (halfP a ++ halfP b).length (cells3 (halfP a ++ halfP b)) by rw [cells3_append]; exact o4)
  have hz : ∀ o o', ((w4.alloc o).alloc o').cell? ⟨w.heap.size, 0, none⟩ = some (.slice none 0 0) := fun o o' => (blk2 X4 o o').cells 0
  have hfz : ∀ o o', ((w4.alloc o).alloc o').frozen? ⟨w.heap.size, 0, none⟩ = false := fun o o' => (blk2 X4 o o').frozen 0
  have HX4 := hid X4
  have HB4 := hid B4
  obtain ⟨A4, c4, rfl⟩ := own_slice o4
  clear o4 g4 t4 X4 B4
  go_wp2_with fail
  obtain ⟨V, hV⟩ : ∃ V, ((w4.alloc (.cells #[.int .i64 3, .int .i64 0, .int .i64 0] 74)).alloc (.cells #[.slice A4 8 c4, .slice (some ⟨w4.heap.size, 0, none⟩) 1 1] 71)).setCell ⟨w.heap.size, 0, none⟩ (.slice (some ⟨w4.heap.size + 1, 0, none⟩) 2 2) = V := ⟨_, rfl⟩
  obtain ⟨zz, oV, bV⟩ := cpl_end HX4.out HB4.out O4.out s1 hV.symm
  rw [hV]
  refine bodyPost_ret (v := .tuple #[.agg #[.slice (some ⟨w4.heap.size + 1, 0, none⟩) 2 2], .bool true]) (by simp [results, Try.results19, go_sem, zz]) rfl ?_
  rw [hs.out]
  exact ⟨_, _, rfl, oV, bV⟩
theorem two_own {V : World} {g e : Nat} {s s' : Tr} (h : V.heap[g]? = some (.cells #[.int .i64 s.1, .int .i64 s.2.1, .int .i64 s.2.2, .int .i64 s'.1, .int .i64 s'.2.1, .int .i64 s'.2.2] e)) : V.ownsRow 0 e 3 (.slice (some ⟨g, 0, none⟩) 2 2) 2 (cells3 [s, s']) :=
 ⟨rfl, .inr ⟨g, 2, _, rfl, Nat.zero_le _, h, Nat.le_refl _, by decide, rfl, rfl⟩⟩
theorem idx0 (a b : Int) (w : World) : (Instr.index 72 (.agg #[.int .i64 a, .int .i64 b]) (.int .i64 0)).run Try.prog w = .ok (.int .i64 a) w := by kernel_rfl
theorem idx1 (a b : Int) (w : World) : (Instr.index 72 (.agg #[.int .i64 a, .int .i64 b]) (.int .i64 1)).run Try.prog w = .ok (.int .i64 b) w := by kernel_rfl
def bodyK (a b : Int) : Nat → List Tr
 | 0 => []
 | 1 => halfP a
 | _ => halfP a ++ halfP b
def pickK (a b : Int) (k : Nat) : Int := if k = 0 then a else b
theorem bodyK_succ (a b : Int) {k : Nat} (h : k < 2) : bodyK a b (k + 1) = (bodyK a b k ++ [(1, 2, pickK a b k), (3, 2, 0)]) ++ [(1, 3, -(pickK a b k)), (5, 1, 3)] := by
 match k, h with
 | 0, _ => rfl
 | 1, _ => rfl
theorem bodyK_len (a b : Int) {k : Nat} (h : k ≤ 2) : (bodyK a b k).length = 4 * k := by
 match k, h with
 | 0, _ => rfl
 | 1, _ => rfl
 | 2, _ => rfl
set_option maxRecDepth 100000 in
set_option maxHeartbeats 4000000 in
theorem cplS_any (a b : Int) (w : World) : Calls Try.prog 18 #[.int .i64 a, .int .i64 b] w (ProgR (cleanR a b) w) := by
 have hA := hid (fun W => StpS.l1In_any a 1 32767 W)
 have hB := hid (fun W => StpS.l1In_any b 1 32767 W)
 rw [resB_btw] at hA hB
 cases ha : resB a with
 | false =>
  have hs := hid (show cleanR a b = ([], false) by unfold cleanR; rw [ha]; rfl)
  rw [ha] at hA
  clear ha hB
  go_enter Try.func18, Try.ntmps18
  go_wp2_with fail
  refine (hA.out _).mono ?_
  rintro e w1 ⟨rfl, rfl⟩
  go_wp2_with fail
  refine bodyPost_ret (v := .tuple #[.agg #[.slice none 0 0], .bool false]) (by simp [results, Try.results18, go_sem]) rfl ?_
  rw [hs.out]
  exact ⟨none, 0, rfl, own_nil _ _, (Below.refl _ _).alloc (Nat.le_refl _) _⟩
 | true =>
 cases hb : resB b with
 | false =>
  have hs := hid (show cleanR a b = ([], false) by unfold cleanR; rw [ha, hb]; rfl)
  rw [ha] at hA
  rw [hb] at hB
  clear ha hb
  go_enter Try.func18, Try.ntmps18
  go_wp2_with fail
  refine (hA.out _).mono ?_
  rintro e w1 ⟨rfl, rfl⟩
  go_wp2_with fail
  refine (hB.out _).mono ?_
  rintro e w1 ⟨rfl, rfl⟩
  go_wp2_with fail
  refine bodyPost_ret (v := .tuple #[.agg #[.slice none 0 0], .bool false]) (by simp [results, Try.results18, go_sem]) rfl ?_
  rw [hs.out]
  exact ⟨none, 0, rfl, own_nil _ _, (Below.refl _ _).alloc (Nat.le_refl _) _⟩
 | true =>
  have hs := hid (show cleanR a b = (cleanP a b, true) by unfold cleanR; rw [ha, hb]; rfl)
  obtain ⟨i0, hi, hz0, hz1, hz2⟩ := info_parts infoStep
  obtain ⟨a1, a2⟩ := resB_yes ha
  obtain ⟨b1, b2⟩ := resB_yes hb
  rw [ha] at hA
  rw [hb] at hB
  clear ha hb
  go_enter Try.func18, Try.ntmps18
  go_wp2_with fail
  refine (hA.out _).mono ?_
  rintro e w1 ⟨rfl, rfl⟩
  go_wp2_with fail
  refine (hB.out _).mono ?_
  rintro e w1 ⟨rfl, rfl⟩
  obtain ⟨w1, hw1⟩ : ∃ w1, w.alloc (.cells #[.slice none 0 0] 31) = w1 := ⟨_, rfl⟩
  have X1 : Blk w1 w.heap.size 31 #[.slice none 0 0] := by rw [← hw1]; exact heap1_0 w _
  have B1 : Below w.heap.size w w1 := by rw [← hw1]; exact (Below.refl _ _).alloc (Nat.le_refl _) _
  have s1 : w.heap.size < w1.heap.size := by rw [← hw1]; simp
  rw [hw1]
  clear hw1
  go_wp2_with fail
  have HB1 := hid B1
  have HX1 := hid X1
  have HO := hid (show (w1.alloc (.cells #[] 74)).ownsRow w1.heap.size 74 3 (.slice (some ⟨w1.heap.size, 0, none⟩) 0 0) 0 (cells3 (bodyK a b 0)) from App.empty_own (heap1_0 w1 _) (Nat.le_refl _))
  have HBL := hid (show Below w1.heap.size w1 (w1.alloc (.cells #[] 74)) from (Below.refl _ _).alloc (Nat.le_refl _) _)
  clear X1 B1
  go_loopw [6, 7] (fun v i wr => ∃ (k : Nat) (A' : Option Addr) (c' : Nat), k ≤ 2 ∧ i = .int .i64 k ∧ v = .slice A' (4 * k) c' ∧ wr.ownsRow w1.heap.size 74 3 (.slice A' (4 * k) c') (4 * k) (cells3 (bodyK a b k)) ∧ Below w1.heap.size w1 wr) (fun _ i _ => 2 - (intOf i).toNat)
  case atStart => exact ⟨0, _, _, by omega, rfl, rfl, HO.out, HBL.out⟩
  case round =>
   obtain ⟨k, A', c', hk, rfl, rfl, how, hbw⟩ := hrel
   have HO := hid how
   have HB := hid hbw
   have szr := hbw.size
   clear how hbw
   by_cases hlt : k < 2
   ·have h01 : k = 0 ∨ k = 1 := by omega
    rcases h01 with rfl | rfl
    ·have hix := idx0 a b
     obtain ⟨m, hm⟩ : ∃ m, 4 * 0 = m := ⟨_, rfl⟩
     have hm4 : m ≤ 4 := by omega
     have HM := hid hm
     have hbs := hid (show bodyK a b (0 + 1) = (bodyK a b 0 ++ [(1, 2, a), (3, 2, 0)]) ++ [(1, 3, -a), (5, 1, 3)] from bodyK_succ a b (by omega))
     have HO := hid (show wr.ownsRow w1.heap.size 74 3 (.slice A' m c') m (cells3 (bodyK a b 0)) by rw [← hm]; exact HO.out)
     rw [hm]
     clear hm
     go_wp2_with (first
      | (at_builtin; refine App.row_list _ rfl (.tmp 28) (.tmp 32) 71 rfl w1.heap.size 0 74 i0 _ 3 24 Try.underlying71 hi hz0 hz1 hz2 rfl (by decide) (.slice A' m c') m (cells3 (bodyK a b 0)) rfl (own_below HO.out ((Below.refl _ _).alloc (Nat.le_refl _) _) (Nat.le_refl _)) (.slice (some ⟨wr.heap.size, 0, none⟩) 2 2) 2 (cells3 [(1, 2, a), (3, 2, 0)]) rfl (two_own (s := (1, 2, a)) (s' := (3, 2, 0)) (heap1_0 wr _)) (cells3_one _) (by unfold maxLen; omega) (by omega) (by simp; omega) ?_)
      | go_in)
     intro v2 w2 o2 g2 t2
     have HB2 := hid ((HB.out.alloc szr _).trans ((Chg.of_grown g2).below (by simp; omega) (fun x hx hc => by have := (World.ownsRow.lt HO.out x hc.symm).1; omega)))
     obtain ⟨A2, c2, rfl⟩ := own_slice o2
     have O2 := hid (show w2.ownsRow w1.heap.size 74 3 (.slice A2 (m + 2) c2) (m + 2) (cells3 (bodyK a b 0 ++ [(1, 2, a), (3, 2, 0)])) by rw [cells3_append]; exact o2)
     have s2 := HB2.out.size
     clear o2 g2 t2
     go_wp2_with (first
      | (at_builtin; refine App.row_list _ rfl (.tmp 34) (.tmp 39) 71 rfl w1.heap.size 0 74 i0 _ 3 24 Try.underlying71 hi hz0 hz1 hz2 rfl (by decide) (.slice A2 (m + 2) c2) (m + 2) (cells3 (bodyK a b 0 ++ [(1, 2, a), (3, 2, 0)])) rfl (own_below O2.out ((Below.refl _ _).alloc (Nat.le_refl _) _) (Nat.le_refl _)) (.slice (some ⟨w2.heap.size, 0, none⟩) 2 2) 2 (cells3 [(1, 3, -a), (5, 1, 3)]) rfl (two_own (s := (1, 3, -a)) (s' := (5, 1, 3)) (heap1_0 w2 _)) (cells3_one _) (by unfold maxLen; omega) (by omega) (by simp; omega) ?_)
      | go_in)
     intro v3 w3 o3 g3 t3
     have HB3 := hid ((HB2.out.alloc s2 _).trans ((Chg.of_grown g3).below (by simp; omega) (fun x hx hc => by have := (World.ownsRow.lt O2.out x hc.symm).1; omega)))
     obtain ⟨A3, c3, rfl⟩ := own_slice o3
     have O3 := hid (show w3.ownsRow w1.heap.size 74 3 (.slice A3 (m + 2 + 2) c3) (m + 2 + 2) (cells3 (bodyK a b (0 + 1))) by rw [hbs.out, cells3_append]; exact o3)
     clear o3 g3 t3
     go_wp2_with fail
     go_roundw
     case rel =>
      have e4 : m + 2 + 2 = 4 * (0 + 1) := by have := HM.out; omega
      exact ⟨0 + 1, A3, c3, by omega, by go_num, by rw [e4], by rw [← e4]; exact O3.out, HB3.out⟩
     case measure => simp [intOf]
    ·have hix := idx1 a b
     obtain ⟨m, hm⟩ : ∃ m, 4 * 1 = m := ⟨_, rfl⟩
     have hm4 : m ≤ 4 := by omega
     have HM := hid hm
     have hbs := hid (show bodyK a b (1 + 1) = (bodyK a b 1 ++ [(1, 2, b), (3, 2, 0)]) ++ [(1, 3, -b), (5, 1, 3)] from bodyK_succ a b (by omega))
     have HO := hid (show wr.ownsRow w1.heap.size 74 3 (.slice A' m c') m (cells3 (bodyK a b 1)) by rw [← hm]; exact HO.out)
     rw [hm]
     clear hm
     go_wp2_with (first
      | (at_builtin; refine App.row_list _ rfl (.tmp 28) (.tmp 32) 71 rfl w1.heap.size 0 74 i0 _ 3 24 Try.underlying71 hi hz0 hz1 hz2 rfl (by decide) (.slice A' m c') m (cells3 (bodyK a b 1)) rfl (own_below HO.out ((Below.refl _ _).alloc (Nat.le_refl _) _) (Nat.le_refl _)) (.slice (some ⟨wr.heap.size, 0, none⟩) 2 2) 2 (cells3 [(1, 2, b), (3, 2, 0)]) rfl (two_own (s := (1, 2, b)) (s' := (3, 2, 0)) (heap1_0 wr _)) (cells3_one _) (by unfold maxLen; omega) (by omega) (by simp; omega) ?_)
      | go_in)
     intro v2 w2 o2 g2 t2
     have HB2 := hid ((HB.out.alloc szr _).trans ((Chg.of_grown g2).below (by simp; omega) (fun x hx hc => by have := (World.ownsRow.lt HO.out x hc.symm).1; omega)))
     obtain ⟨A2, c2, rfl⟩ := own_slice o2
     have O2 := hid (show w2.ownsRow w1.heap.size 74 3 (.slice A2 (m + 2) c2) (m + 2) (cells3 (bodyK a b 1 ++ [(1, 2, b), (3, 2, 0)])) by rw [cells3_append]; exact o2)
     have s2 := HB2.out.size
     clear o2 g2 t2
     go_wp2_with (first
      | (at_builtin; refine App.row_list _ rfl (.tmp 34) (.tmp 39) 71 rfl w1.heap.size 0 74 i0 _ 3 24 Try.underlying71 hi hz0 hz1 hz2 rfl (by decide) (.slice A2 (m + 2) c2) (m + 2) (cells3 (bodyK a b 1 ++ [(1, 2, b), (3, 2, 0)])) rfl (own_below O2.out ((Below.refl _ _).alloc (Nat.le_refl _) _) (Nat.le_refl _)) (.slice (some ⟨w2.heap.size, 0, none⟩) 2 2) 2 (cells3 [(1, 3, -b), (5, 1, 3)]) rfl (two_own (s := (1, 3, -b)) (s' := (5, 1, 3)) (heap1_0 w2 _)) (cells3_one _) (by unfold maxLen; omega) (by omega) (by simp; omega) ?_)
      | go_in)
     intro v3 w3 o3 g3 t3
     have HB3 := hid ((HB2.out.alloc s2 _).trans ((Chg.of_grown g3).below (by simp; omega) (fun x hx hc => by have := (World.ownsRow.lt O2.out x hc.symm).1; omega)))
     obtain ⟨A3, c3, rfl⟩ := own_slice o3
     have O3 := hid (show w3.ownsRow w1.heap.size 74 3 (.slice A3 (m + 2 + 2) c3) (m + 2 + 2) (cells3 (bodyK a b (1 + 1))) by rw [hbs.out, cells3_append]; exact o3)
     clear o3 g3 t3
     go_wp2_with fail
     go_roundw
     case rel =>
      have e4 : m + 2 + 2 = 4 * (1 + 1) := by have := HM.out; omega
      exact ⟨1 + 1, A3, c3, by omega, by go_num, by rw [e4], by rw [← e4]; exact O3.out, HB3.out⟩
     case measure => simp [intOf]
   ·obtain rfl : k = 2 := by omega
    have HX2 := hid (HX1.out.below HB.out s1)
    have HBw := hid (HB1.out.trans (HB.out.mono (Nat.le_of_lt s1)))
    have HOl := hid (show wr.ownsRow w1.heap.size 74 3 (.slice A' 8 c') (halfP a ++ halfP b).length (cells3 (halfP a ++ halfP b)) from HO.out)
    have hz : ∀ o o', ((wr.alloc o).alloc o').cell? ⟨w.heap.size, 0, none⟩ = some (.slice none 0 0) := fun o o' => (blk2 HX2.out o o').cells 0
    have hfz : ∀ o o', ((wr.alloc o).alloc o').frozen? ⟨w.heap.size, 0, none⟩ = false := fun o o' => (blk2 HX2.out o o').frozen 0
    go_wp2_with fail
    obtain ⟨V, hV⟩ : ∃ V, ((wr.alloc (.cells #[.int .i64 3, .int .i64 0, .int .i64 0] 74)).alloc (.cells #[.slice A' 8 c', .slice (some ⟨wr.heap.size, 0, none⟩) 1 1] 71)).setCell ⟨w.heap.size, 0, none⟩ (.slice (some ⟨wr.heap.size + 1, 0, none⟩) 2 2) = V := ⟨_, rfl⟩
    obtain ⟨zz, oV, bV⟩ := cpl_end HX2.out HBw.out HOl.out s1 hV.symm
    rw [hV]
    refine bodyPost_ret (v := .tuple #[.agg #[.slice (some ⟨wr.heap.size + 1, 0, none⟩) 2 2], .bool true]) (by simp [results, Try.results18, go_sem, zz]) rfl ?_
    rw [hs.out]
    exact ⟨_, _, rfl, oV, bV⟩
end Go.Proofs.Ytikdcnlbjpabjab.CplP
-- squeezed
