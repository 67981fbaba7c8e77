/- spec.l2Drop and spec.DropStep: the program without a step. -/
import Derived.Test.YtgfjdfmmkomolaaDropI
namespace Go.Proofs.Ytgfjdfmmkomolaa.DropS
set_option linter.unusedVariables false
set_option linter.unusedSimpArgs false
open Go.ChangeShapes Go.WideShapes Go.ChangeAt Go.RowKit
open PL Mem To MarkP Res Prg PrgS StpS DeferP DeferW DelP MoveP SlotP DropI OwnS

def dropAt (l : List Tr) (k : Nat) : List Tr := l.take k ++ l.drop (k + 1)
theorem dropAt_next (xs : List Tr) (k t : Nat) (s : Tr) (hs : xs[t]? = some s) (h : t ≠ k) : dropAt (xs.take (t + 1)) k = dropAt (xs.take t) k ++ [s] := by
  have ht : t < xs.length := (List.getElem?_eq_some_iff.1 hs).1
  have e : xs.take (t + 1) = xs.take t ++ [s] := by rw [List.take_add_one, hs]; rfl
  have hl : (xs.take t).length = t := by simp; omega
  unfold dropAt
  rw [e]
  rcases Nat.lt_or_ge t k with h1 | h1
  · have a1 : (xs.take t ++ [s]).take k = xs.take t ++ [s] := List.take_of_length_le (by simp; omega)
    have a2 : (xs.take t ++ [s]).drop (k + 1) = [] := List.drop_eq_nil_of_le (by simp; omega)
    have a3 : (xs.take t).take k = xs.take t := List.take_of_length_le (by omega)
    have a4 : (xs.take t).drop (k + 1) = [] := List.drop_eq_nil_of_le (by omega)
    rw [a1, a2, a3, a4]
    simp
  · rw [List.take_append_of_le_length (by omega), List.drop_append_of_le_length (by omega), List.append_assoc]
theorem dropAt_same (xs : List Tr) (k : Nat) (hk : k < xs.length) : dropAt (xs.take (k + 1)) k = dropAt (xs.take k) k := by
  unfold dropAt
  rw [List.take_take, List.take_take, List.drop_eq_nil_of_le (by simp; omega), List.drop_eq_nil_of_le (by simp; omega), Nat.min_eq_left (by omega), Nat.min_self]
theorem one3_own {V : World} {g e : Nat} {x y z : Value} (h : V.heap[g]? = some (.cells #[x, y, z] e)) : V.ownsRow 0 e 3 (.slice (some ⟨g, 0, none⟩) 1 1) 1 [x, y, z] :=
  ⟨by simp, .inr ⟨g, 1, #[x, y, z], rfl, Nat.zero_le _, h, Nat.le_refl _, by decide, by simp, by simp⟩⟩
theorem move_id {s : Tr} {k : Int} (h : ¬ (s.1 = 11 ∧ k < s.2.1)) : moveS (k + 1) (-1) s = s := by unfold moveS; rw [if_neg (fun hc => h ⟨hc.1, by omega⟩)]
theorem move_dn {s : Tr} {k : Int} (h1 : s.1 = 11) (h2 : k < s.2.1) (h8 : s.2.1 ≤ 8) : moveS (k + 1) (-1) s = (11, s.2.1 - 1, s.2.2) := by
  unfold moveS; rw [if_pos ⟨h1, by omega⟩, h1]; congr 2; omega

def ProgOf (n : Nat) (q : Pg) (w : World) (e : Ending) (w' : World) : Prop := ∃ A' c', e = .returned (.agg #[.slice A' n c']) ∧ OwnP w' w.heap.size (.slice A' n c') q ∧ Below w.heap.size w w'
structure DAt (w w1 : World) (n c c2 : Nat) (A A2 : Option Addr) (xs : List Tr) (k t : Nat) (v : Value) (wr : World) : Prop where
  below : Below w1.heap.size w1 wr
  box : Blk wr (w1.heap.size + 1) 30 #[.slice A2 n c2]
  own : wr.ownsRow w1.heap.size 34 3 v (dropAt (xs.take t) k).length (cells3 ((dropAt (xs.take t) k).map (moveS (k + 1) (-1))))
theorem DAt.keep {w w1 : World} {n c c2 : Nat} {A A2 : Option Addr} {xs : List Tr} {k t : Nat} {v : Value} {wr wr' : World} (h : DAt w w1 n c c2 A A2 xs k t v wr) (b : Below wr.heap.size wr wr') : DAt w w1 n c c2 A A2 xs k t v wr' :=
  ⟨h.below.trans (b.mono h.below.size), h.box.below b h.box.lt, own_below h.own b (Nat.le_refl _)⟩
theorem DAt.push {w w1 : World} {n c c2 : Nat} {A A2 : Option Addr} {xs : List Tr} {k t : Nat} {v v' : Value} {wr wr' : World} {s : Tr} (h : DAt w w1 n c c2 A A2 xs k t v wr) (hs : xs[t]? = some s) (hne : t ≠ k) (g : wr.grownBy wr' v.ownBlock)
    (o : wr'.ownsRow w1.heap.size 34 3 v' ((dropAt (xs.take t) k).length + 1) (cells3 ((dropAt (xs.take t) k).map (moveS (k + 1) (-1))) ++ c3 (moveS (k + 1) (-1) s))) : DAt w w1 n c c2 A A2 xs k (t + 1) v' wr' := by
  refine ⟨h.below.grown g h.below.size (fun x hx => (h.own.lt x hx).1), h.box.chg (Chg.of_grown g) (fun e => App.own_blk_ne h.own h.box (by decide) e.symm), ?_⟩
  rw [dropAt_next xs k t s hs hne, List.length_append, List.map_append, cells3_append]
  simpa [cells3] using o
theorem DAt.skip {w w1 : World} {n c c2 : Nat} {A A2 : Option Addr} {xs : List Tr} {k : Nat} {v : Value} {wr : World} (h : DAt w w1 n c c2 A A2 xs k k v wr) (hk : k < xs.length) : DAt w w1 n c c2 A A2 xs k (k + 1) v wr :=
  ⟨h.below, h.box, by rw [dropAt_same xs k hk]; exact h.own⟩
set_option maxHeartbeats 2000000 in
set_option maxRecDepth 100000 in
theorem l2Drop_any (lo n c : Nat) (A : Option Addr) (p : Pg) (j k : Nat) (xs : List Tr) (hl : p.length = n) (hn : n ≤ 6) (hsm : Small p 8) (hx : p[j]? = some xs) (hk : k < xs.length) (hjo : JumpOk xs) (w : World) (ho : OwnP w lo (.slice A n c) p) :
    Calls Try.prog 63 #[.agg #[.slice A n c], .int .i64 j, .int .i64 k] w (ProgOf n (p.set j ((dropAt xs k).map (moveS (k + 1) (-1)))) w) := by
  obtain ⟨i0, hi, hz0, hz1, hz2⟩ := info_parts infoStep
  have hO := Lib.hid ho
  have hC := Lib.hid (fun (W : World) (h : OwnP W lo (.slice A n c) p) => OwnS.l2Own_any lo n c A p (by omega) hl (hsm.mono (by omega)) W h)
  obtain ⟨g0, Ai, ci, rfl, hlo0, hg0, hc0, _, hrow, hbd, _⟩ := OwnH_slot (OwnH.of ho) hx
  have hxl : xs.length ≤ 8 := hsm j xs hx
  have hjn : j < n := by have := (List.getElem?_eq_some_iff.1 hx).1; omega
  have HX := Lib.hid hx
  have HR := Lib.hid hrow
  have HJ := Lib.hid hjo
  have HL := Lib.hid hl
  clear ho hsm hx hrow hjo hl
  go_enter Try.func63, Try.ntmps63
  go_wp2_with fail
  refine (hC.out (two n c (some ⟨g0, 0, none⟩) w) (hO.out.below (two_below n c _ w))).mono ?_
  rintro e w1 ⟨A2, c2, rfl, o1, b1⟩
  obtain ⟨d0, d1, bb1, s1⟩ := two_facts b1
  have D0 := Lib.hid d0
  have D1 := Lib.hid d1
  have BB := Lib.hid bb1
  have O1 := Lib.hid o1
  have HSZ := Lib.hid (show (two n c (some ⟨g0, 0, none⟩) w).heap.size = w.heap.size + 2 ∧ (two n c (some ⟨g0, 0, none⟩) w).heap.size ≤ w1.heap.size from ⟨by simp [two], b1.size⟩)
  clear d0 d1 bb1 o1 b1
  go_wp2_with fail
  go_loopw [8, 9] (fun v i wr => ∃ t : Nat, t ≤ xs.length ∧ i = .int .i64 t ∧ (∃ Av cv, v = .slice Av (dropAt (xs.take t) k).length cv) ∧ DAt w w1 n c c2 (some ⟨g0, 0, none⟩) A2 xs k t v wr) (fun _ i _ => xs.length - (intOf i).toNat)
  case atStart =>
    refine ⟨0, Nat.zero_le _, rfl, ⟨some ⟨w1.heap.size, 0, none⟩, 0, by simp [dropAt]⟩, ((Below.refl _ _).alloc (Nat.le_refl _) _).alloc (by simp) _, heap2_1 _ _ _, ?_⟩
    have := App.empty_own (base := w1.heap.size) (size := 3) (heap2_0 w1 (.cells #[] 34) (.cells #[.slice A2 n c2] 30)) (Nat.le_refl _)
    simpa [dropAt, cells3] using this
  case round =>
    obtain ⟨t, ht, rfl, ⟨Av, cv, rfl⟩, hat⟩ := hrel
    have X := Lib.hid hat
    have bw : Below w.heap.size w wr := BB.out.trans (hat.below.mono BB.out.size)
    have z0 : wr.cell? ⟨w.heap.size, 0, none⟩ = some (.slice (some ⟨g0, 0, none⟩) n c) := (D0.out.below hat.below (by omega)).cells 0
    have zg : wr.cell? ⟨g0, j, none⟩ = some (.slice Ai xs.length ci) := (bw.cell (p := ⟨g0, j, none⟩) hg0).trans hc0
    clear hat
    by_cases hlt : t < xs.length
    · obtain ⟨s, hsx⟩ : ∃ s, xs[t]? = some s := ⟨_, List.getElem?_eq_getElem hlt⟩
      obtain ⟨gi, rfl, hgi, _, _, _, _, y0, y1, y2, _, _⟩ := DeferW.own_at (own_below HR.out bw (Nat.le_refl _)) hsx hlt
      have HS := Lib.hid hsx
      have BW := Lib.hid bw
      clear hsx bw
      by_cases h11 : s.1 = 11
      · obtain ⟨j0, j1⟩ := HJ.out t s HS.out h11
        by_cases hgt : (k : Int) < s.2.1
        · have HM := Lib.hid (move_dn h11 hgt j1)
          rw [h11] at y0
          clear h11
          by_cases htk : t = k
          · subst htk
            go_wp2
            go_roundw
            case rel => exact ⟨t + 1, by omega, by go_num, ⟨_, _, by rw [dropAt_same xs t hlt]⟩, (X.out.keep ((Below.refl _ _).alloc (Nat.le_refl _) _)).skip hlt⟩
            case measure => simp [intOf]; omega
          · go_wp2_with (at_builtin; refine App.row_list _ rfl (.tmp 48) (.tmp 50) 66 rfl w1.heap.size 0 34 i0 _ 3 24 Try.underlying66 hi hz0 hz1 hz2 rfl (by decide) _ _ _ rfl (((X.out.own.alloc _).alloc _)) _ 1 [.int .i64 11, .int .i64 (s.2.1 - 1), .int .i64 s.2.2] rfl (one3_own (by simpa using heap2_1 _ _ _)) (by intro u hu; simp at hu; rcases hu with rfl | rfl | rfl <;> rfl) (by have := X.out.own.1; unfold maxLen; simp [dropAt]; omega) (by simp [dropAt]; omega) (by have := X.out.below.size; simp; omega) ?_)
            intro v1 w3 o3 g3 t3
            have N := Lib.hid ((X.out.keep (((Below.refl _ _).alloc (Nat.le_refl _) _).alloc (by simp) _)).push HS.out htk g3 (by rw [HM.out]; exact o3))
            obtain ⟨A3, c3', rfl⟩ := own_slice o3
            clear o3 g3 t3
            go_wp2_with fail
            go_roundw
            case rel => exact ⟨t + 1, by omega, by go_num, ⟨_, _, by rw [dropAt_next xs k t s HS.out htk, List.length_append]; rfl⟩, N.out⟩
            case measure => simp [intOf]; omega
        · have HM := Lib.hid (show moveS (k + 1) (-1) s = (11, s.2.1, s.2.2) by rw [move_id (fun h => hgt h.2), ← h11])
          have hd : decide ((k : Int) < s.2.1) = false := by simpa using hgt
          rw [h11] at y0
          clear h11 hgt
          by_cases htk : t = k
          · subst htk
            go_wp2
            go_roundw
            case rel => exact ⟨t + 1, by omega, by go_num, ⟨_, _, by rw [dropAt_same xs t hlt]⟩, (X.out.keep ((Below.refl _ _).alloc (Nat.le_refl _) _)).skip hlt⟩
            case measure => simp [intOf]; omega
          · go_wp2_with (at_builtin; refine App.row_list _ rfl (.tmp 48) (.tmp 50) 66 rfl w1.heap.size 0 34 i0 _ 3 24 Try.underlying66 hi hz0 hz1 hz2 rfl (by decide) _ _ _ rfl (((X.out.own.alloc _).alloc _)) _ 1 [.int .i64 11, .int .i64 s.2.1, .int .i64 s.2.2] rfl (one3_own (by simpa using heap2_1 _ _ _)) (by intro u hu; simp at hu; rcases hu with rfl | rfl | rfl <;> rfl) (by have := X.out.own.1; unfold maxLen; simp [dropAt]; omega) (by simp [dropAt]; omega) (by have := X.out.below.size; simp; omega) ?_)
            intro v1 w3 o3 g3 t3
            have N := Lib.hid ((X.out.keep (((Below.refl _ _).alloc (Nat.le_refl _) _).alloc (by simp) _)).push HS.out htk g3 (by rw [HM.out]; exact o3))
            obtain ⟨A3, c3', rfl⟩ := own_slice o3
            clear o3 g3 t3
            go_wp2_with fail
            go_roundw
            case rel => exact ⟨t + 1, by omega, by go_num, ⟨_, _, by rw [dropAt_next xs k t s HS.out htk, List.length_append]; rfl⟩, N.out⟩
            case measure => simp [intOf]; omega
      · have HM := Lib.hid (show moveS (k + 1) (-1) s = s from move_id (fun h => h11 h.1))
        have hd : (s.1 == 11) = false := by simpa using h11
        clear h11
        by_cases htk : t = k
        · subst htk
          go_wp2
          go_roundw
          case rel => exact ⟨t + 1, by omega, by go_num, ⟨_, _, by rw [dropAt_same xs t hlt]⟩, (X.out.keep ((Below.refl _ _).alloc (Nat.le_refl _) _)).skip hlt⟩
          case measure => simp [intOf]; omega
        · go_wp2_with (at_builtin; refine App.row_list _ rfl (.tmp 48) (.tmp 50) 66 rfl w1.heap.size 0 34 i0 _ 3 24 Try.underlying66 hi hz0 hz1 hz2 rfl (by decide) _ _ _ rfl (((X.out.own.alloc _).alloc _)) _ 1 [.int .i64 s.1, .int .i64 s.2.1, .int .i64 s.2.2] rfl (one3_own (by simpa using heap2_1 _ _ _)) (by intro u hu; simp at hu; rcases hu with rfl | rfl | rfl <;> rfl) (by have := X.out.own.1; unfold maxLen; simp [dropAt]; omega) (by simp [dropAt]; omega) (by have := X.out.below.size; simp; omega) ?_)
          intro v1 w3 o3 g3 t3
          have N := Lib.hid ((X.out.keep (((Below.refl _ _).alloc (Nat.le_refl _) _).alloc (by simp) _)).push HS.out htk g3 (by rw [HM.out]; exact o3))
          obtain ⟨A3, c3', rfl⟩ := own_slice o3
          clear o3 g3 t3
          go_wp2_with fail
          go_roundw
          case rel => exact ⟨t + 1, by omega, by go_num, ⟨_, _, by rw [dropAt_next xs k t s HS.out htk, List.length_append]; rfl⟩, N.out⟩
          case measure => simp [intOf]; omega
    · obtain rfl : t = xs.length := by omega
      obtain ⟨g, Ai2, ci2, e2, hlg, hgl, hc2, hf2, hrow2, hbd2, hne2, hput⟩ := OwnH_slot (OwnH.of O1.out) HX.out
      subst e2
      have C1 : Chg (fun b => (Value.slice Ai2 xs.length ci2).ownBlock = some b) w1 wr := Chg.of_below X.out.below
      have z7 : wr.cell? ⟨w1.heap.size + 1, 0, none⟩ = some (.slice (some ⟨g, 0, none⟩) n c2) := X.out.box.cells 0
      have k2 : wr.cell? ⟨g, j, none⟩ = some (.slice Ai2 xs.length ci2) := (X.out.below.cell (p := ⟨g, j, none⟩) hgl).trans hc2
      have f2 := hf2 wr C1
      have hdl : (dropAt (xs.take xs.length) k).length = ((dropAt xs k).map (moveS (k + 1) (-1))).length := by rw [List.take_length, List.length_map]
      have fin := hput wr (.slice Av (dropAt (xs.take xs.length) k).length cv) ((dropAt xs k).map (moveS (k + 1) (-1))) C1 (by have := X.out.own; rw [hdl, List.take_length] at this; rw [hdl]; exact own_mono this HSZ.out.2) (fun x hx => .inr (X.out.own.lt x hx).1)
      have D1r : Blk wr (w.heap.size + 1) 30 #[.slice none 0 0] := D1.out.below X.out.below D1.out.lt
      have bwr : Below w.heap.size w wr := BB.out.trans (X.out.below.mono BB.out.size)
      have X9 := X.out.box
      have FIN := Lib.hid fin
      clear fin X hlt
      obtain ⟨m, hm⟩ : ∃ m, (dropAt (xs.take xs.length) k).length = m := ⟨_, rfl⟩
      rw [hm] at FIN ⊢
      have hsz := HSZ.out
      obtain ⟨w5, hw5⟩ : ∃ w5, wr.setCell ⟨g, j, none⟩ (.slice Av m cv) = w5 := ⟨_, rfl⟩
      have q7 : w5.cell? ⟨w1.heap.size + 1, 0, none⟩ = some (.slice (some ⟨g, 0, none⟩) n c2) := by rw [← hw5]; exact (X9.far _ _ (by show w1.heap.size + 1 ≠ g; omega)).cells 0
      have q1 : w5.cell? ⟨w.heap.size + 1, 0, none⟩ = some (.slice none 0 0) := by rw [← hw5]; exact (D1r.far _ _ (by show w.heap.size + 1 ≠ g; omega)).cells 0
      have fr1 : w5.frozen? ⟨w.heap.size + 1, 0, none⟩ = false := by rw [← hw5]; exact (D1r.far _ _ (by show w.heap.size + 1 ≠ g; omega)).frozen 0
      have b5 : Below w.heap.size w w5 := by rw [← hw5]; exact bwr.setCell (by show w.heap.size ≤ g; omega) _
      have FIN5 := Lib.hid (by have := FIN.out; rw [hw5] at this; exact this)
      clear hm hdl
      go_wp2
      refine bodyPost_ret (v := .agg #[.slice (some ⟨g, 0, none⟩) n c2]) (by simp [results, Try.results63, go_sem, q1]) rfl ⟨_, _, rfl, ?_, ?_⟩
      · have o5 := OwnH.of FIN5.out
        have hl2 : (p.set j ((dropAt xs k).map (moveS (k + 1) (-1)))).length = n := by rw [List.length_set]; exact HL.out
        exact ((o5.keep (w' := w5.setCell ⟨w.heap.size + 1, 0, none⟩ (.slice (some ⟨g, 0, none⟩) n c2)) (fun b h1 _ => Below.heap_setCell _ _ _ _ (by show b ≠ w.heap.size + 1; omega))).own.mono (show w.heap.size ≤ (two n c (some ⟨g0, 0, none⟩) w).heap.size by omega))
      · exact b5.setCell (by show w.heap.size ≤ w.heap.size + 1; omega) _
end Go.Proofs.Ytgfjdfmmkomolaa.DropS
