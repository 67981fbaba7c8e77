/- spec.l2Put: the program with one more step. -/
import Derived.Test.YtgfjdfmmkomolaaPutI
namespace Go.Proofs.Ytgfjdfmmkomolaa.PutS
set_option linter.unusedVariables false
set_option linter.unusedSimpArgs false
open Go.ChangeShapes Go.WideShapes Go.ChangeAt Go.RowKit
open PL Mem To MarkP Res Prg PrgS StpS DeferP DeferW DelP MoveP SlotP DropI OwnS DropS InsP PutI

def ins (k : Nat) (s : Tr) (b : Bool) (l : List Tr) : List Tr := if b then l.take k ++ s :: l.drop k else l
def hd (k : Nat) (s : Tr) (xs : List Tr) (t : Nat) : List Tr := ins k s (decide (k < t)) ((xs.take t).map (moveS k 1))
def md (k : Nat) (s : Tr) (xs : List Tr) (t : Nat) : List Tr := ins k s (decide (k ≤ t)) ((xs.take t).map (moveS k 1))
theorem hd_md_ne {k t : Nat} {s : Tr} {xs : List Tr} (h : t ≠ k) : md k s xs t = hd k s xs t := by
  unfold md hd
  rw [show decide (k ≤ t) = decide (k < t) by rcases Nat.lt_or_ge k t with h1 | h1 <;> simp <;> omega]
theorem hd_md_eq {k : Nat} {s : Tr} {xs : List Tr} (h : k ≤ xs.length) : md k s xs k = hd k s xs k ++ [s] := by
  have hl : ((xs.take k).map (moveS k 1)).length = k := by simp; omega
  unfold md hd ins
  rw [if_pos (by simp), if_neg (by simp), List.take_of_length_le (by omega), List.drop_eq_nil_of_le (by omega)]
theorem md_hd {k t : Nat} {s x : Tr} {xs : List Tr} (hx : xs[t]? = some x) : hd k s xs (t + 1) = md k s xs t ++ [moveS k 1 x] := by
  have ht : t < xs.length := (List.getElem?_eq_some_iff.1 hx).1
  have e : (xs.take (t + 1)).map (moveS k 1) = (xs.take t).map (moveS k 1) ++ [moveS k 1 x] := by rw [List.take_add_one, hx]; simp
  have hl : ((xs.take t).map (moveS k 1)).length = t := by simp; omega
  unfold hd md ins
  rw [e]
  by_cases h : k ≤ t
  · rw [if_pos (by simp; omega), if_pos (by simpa using h), List.take_append_of_le_length (by omega), List.drop_append_of_le_length (by omega)]
    simp
  · rw [if_neg (by simp; omega), if_neg (by simpa using h)]
theorem md_all {k : Nat} {s : Tr} {xs : List Tr} (h : k ≤ xs.length) : md k s xs xs.length = (xs.map (moveS k 1)).take k ++ s :: (xs.map (moveS k 1)).drop k := by
  unfold md ins
  rw [if_pos (by simpa using h), List.take_length]
theorem hd_length {k t : Nat} {s : Tr} {xs : List Tr} : (hd k s xs t).length ≤ xs.length + 1 := by
  unfold hd ins
  split <;> simp <;> omega
theorem md_length {k t : Nat} {s : Tr} {xs : List Tr} : (md k s xs t).length ≤ xs.length + 1 := by
  unfold md ins
  split <;> simp <;> omega
def lst (a b : Int) : Int := if a < b then a else b
theorem least_any (a b : Int) (w : World) : Calls Try.prog 83 #[.int .i64 a, .int .i64 b] w fun e w' => e = .returned (.int .i64 (lst a b)) ∧ w = w' := by
  by_cases h : a < b
  · have hs := Lib.hid (show lst a b = a from if_pos h)
    go_enter Try.func83, Try.ntmps83
    go_wp2
    go_ret
    exact ⟨by rw [hs.out]; rfl, rfl⟩
  · have hs := Lib.hid (show lst a b = b from if_neg h)
    go_enter Try.func83, Try.ntmps83
    go_wp2
    go_ret
    exact ⟨by rw [hs.out]; rfl, rfl⟩
structure DA (w1 : World) (n c2 : Nat) (A2 : Option Addr) (l : List Tr) (v : Value) (wr : World) : Prop where
  below : Below w1.heap.size w1 wr
  box : Blk wr (w1.heap.size + 1) 30 #[.slice A2 n c2]
  own : wr.ownsRow w1.heap.size 34 3 v l.length (cells3 l)
theorem DA.keep {w1 : World} {n c2 : Nat} {A2 : Option Addr} {l : List Tr} {v : Value} {wr wr' : World} (h : DA w1 n c2 A2 l v wr) (b : Below wr.heap.size wr wr') : DA w1 n c2 A2 l v wr' :=
  ⟨h.below.trans (b.mono h.below.size), h.box.below b h.box.lt, own_below h.own b (Nat.le_refl _)⟩
theorem DA.push {w1 : World} {n c2 : Nat} {A2 : Option Addr} {l : List Tr} {v v' : Value} {wr wr' : World} (h : DA w1 n c2 A2 l v wr) (x : Tr) (g : wr.grownBy wr' v.ownBlock)
    (o : wr'.ownsRow w1.heap.size 34 3 v' (l.length + 1) (cells3 l ++ c3 x)) : DA w1 n c2 A2 (l ++ [x]) v' wr' := by
  refine ⟨h.below.grown g h.below.size (fun x hx => (h.own.lt x hx).1), h.box.chg (Chg.of_grown g) (fun e => App.own_blk_ne h.own h.box (by decide) e.symm), ?_⟩
  rw [List.length_append, cells3_append]
  simpa [cells3] using o
theorem put_up {s : Tr} {k : Int} (h1 : s.1 = 11) (h2 : k ≤ s.2.1) : moveS k 1 s = (11, lst (s.2.1 + 1) 8, s.2.2) := by
  unfold moveS lst; rw [if_pos ⟨h1, h2⟩, h1]; congr 2; split <;> omega
theorem put_id {s : Tr} {k : Int} (h : ¬ (s.1 = 11 ∧ k ≤ s.2.1)) : moveS k 1 s = s := by unfold moveS; rw [if_neg h]
set_option maxHeartbeats 4000000 in
set_option maxRecDepth 100000 in
theorem l2Put_any (lo n c : Nat) (A : Option Addr) (p : Pg) (j k : Nat) (xs : List Tr) (s : Tr) (hl : p.length = n) (hn : n ≤ 6) (hsm : Small p 8) (hx : p[j]? = some xs) (hk : k ≤ xs.length) (hjo : JumpOk xs) (w : World) (ho : OwnP w lo (.slice A n c) p) :
    Calls Try.prog 53 #[.agg #[.slice A n c], .int .i64 j, .int .i64 k, .agg #[.int .i64 s.1, .int .i64 s.2.1, .int .i64 s.2.2]] w (ProgOf n (p.set j ((xs.map (moveS k 1)).take k ++ s :: (xs.map (moveS k 1)).drop k)) w) := by
  obtain ⟨i0, hi, hz0, hz1, hz2⟩ := info_parts infoStep
  have hO := Lib.hid ho
  have hC := Lib.hid (fun (W : World) (h : OwnP W lo (.slice A n c) p) => OwnS.l2Own_any lo n c A p (by omega) hl (hsm.mono (by omega)) W h)
  obtain ⟨g0, Ai, ci, rfl, hlo0, hg0, hc0, _, hrow, hbd, _⟩ := OwnH_slot (OwnH.of ho) hx
  have hxl : xs.length ≤ 8 := hsm j xs hx
  have hjn : j < n := by have := (List.getElem?_eq_some_iff.1 hx).1; omega
  have HX := Lib.hid hx
  have HR := Lib.hid hrow
  have HJ := Lib.hid hjo
  have HL := Lib.hid hl
  have HMA := Lib.hid (md_all (s := s) hk)
  clear ho hsm hx hrow hjo hl
  go_enter Try.func53, Try.ntmps53
  go_wp2_with fail
  refine (hC.out (three n c (some ⟨g0, 0, none⟩) s w) (hO.out.below (three_below n c _ s w))).mono ?_
  rintro e w1 ⟨A2, c2, rfl, o1, b1⟩
  obtain ⟨d0, ds, d1, bb1, s1⟩ := three_facts b1
  have D0 := Lib.hid d0
  have DS := Lib.hid ds
  have D1 := Lib.hid d1
  have BB := Lib.hid bb1
  have O1 := Lib.hid o1
  have HSZ := Lib.hid (show (three n c (some ⟨g0, 0, none⟩) s w).heap.size = w.heap.size + 3 ∧ (three n c (some ⟨g0, 0, none⟩) s w).heap.size ≤ w1.heap.size from ⟨by simp [three], b1.size⟩)
  clear d0 ds d1 bb1 o1 b1
  go_wp2_with fail
  go_loopw [10, 11] (fun v i wr => ∃ t : Nat, t ≤ xs.length ∧ i = .int .i64 t ∧ (∃ Av cv, v = .slice Av (hd k s xs t).length cv) ∧ DA w1 n c2 A2 (hd k s xs t) v wr) (fun _ i _ => xs.length + 1 - (intOf i).toNat)
  case atStart =>
    refine ⟨0, Nat.zero_le _, rfl, ⟨some ⟨w1.heap.size, 0, none⟩, 0, by simp [hd, ins]⟩, ((Below.refl _ _).alloc (Nat.le_refl _) _).alloc (by simp) _, heap2_1 _ _ _, ?_⟩
    have := App.empty_own (base := w1.heap.size) (size := 3) (heap2_0 w1 (.cells #[] 34) (.cells #[.slice A2 n c2] 30)) (Nat.le_refl _)
    simpa [hd, ins, cells3] using this
  case round =>
    obtain ⟨t, ht, rfl, ⟨Av, cv, rfl⟩, hat⟩ := hrel
    have X := Lib.hid hat
    have bw : Below w.heap.size w wr := BB.out.trans (hat.below.mono BB.out.size)
    have z0 : wr.cell? ⟨w.heap.size, 0, none⟩ = some (.slice (some ⟨g0, 0, none⟩) n c) := (D0.out.below hat.below (by omega)).cells 0
    have zg : wr.cell? ⟨g0, j, none⟩ = some (.slice Ai xs.length ci) := (bw.cell (p := ⟨g0, j, none⟩) hg0).trans hc0
    have dsr := DS.out.below hat.below (by omega)
    have q0 : wr.cell? ⟨w.heap.size + 1, 0, none⟩ = some (.int .i64 s.1) := dsr.cells 0
    have q1 : wr.cell? ⟨w.heap.size + 1, 1, none⟩ = some (.int .i64 s.2.1) := dsr.cells 1
    have q2 : wr.cell? ⟨w.heap.size + 1, 2, none⟩ = some (.int .i64 s.2.2) := dsr.cells 2
    have hlh : (hd k s xs t).length ≤ xs.length + 1 := hd_length
    have BW := Lib.hid bw
    clear hat dsr bw
    by_cases htk : t = k
    · obtain rfl : k = t := htk.symm
      clear htk
      have HEQ := Lib.hid (hd_md_eq (s := s) hk)
      go_wp2_with (at_builtin; refine App.row_list _ rfl (.tmp 29) (.tmp 31) 66 rfl w1.heap.size 0 34 i0 _ 3 24 Try.underlying66 hi hz0 hz1 hz2 rfl (by decide) _ _ _ rfl (X.out.own.alloc _) _ 1 [.int .i64 s.1, .int .i64 s.2.1, .int .i64 s.2.2] rfl (one3_own (by simpa using heap1_0 _ _)) (by intro u hu; simp at hu; rcases hu with rfl | rfl | rfl <;> rfl) (by unfold maxLen; omega) (by omega) (by have := X.out.below.size; simp; omega) ?_)
      intro v1 w3 o3 g3 t3
      have Y := Lib.hid ((X.out.keep ((Below.refl _ _).alloc (Nat.le_refl _) _)).push s g3 o3)
      obtain ⟨A3, c3', rfl⟩ := own_slice o3
      have YO := Lib.hid (show w3.ownsRow w1.heap.size 34 3 (.slice A3 ((hd k s xs k).length + 1) c3') ((hd k s xs k).length + 1) (cells3 (hd k s xs k ++ [s])) by have := Y.out.own; rw [List.length_append] at this; exact this)
      have bw3 : Below w.heap.size w w3 := BB.out.trans (Y.out.below.mono BB.out.size)
      have z03 : w3.cell? ⟨w.heap.size, 0, none⟩ = some (.slice (some ⟨g0, 0, none⟩) n c) := (D0.out.below Y.out.below (by omega)).cells 0
      have zg3 : w3.cell? ⟨g0, j, none⟩ = some (.slice Ai xs.length ci) := (bw3.cell (p := ⟨g0, j, none⟩) hg0).trans hc0
      have BW3 := Lib.hid bw3
      clear o3 g3 t3 bw3
      by_cases hlt : k < xs.length
      · clear z0 zg q0 q1 q2
        obtain ⟨x, hsx⟩ : ∃ x, xs[k]? = some x := ⟨_, List.getElem?_eq_getElem hlt⟩
        obtain ⟨gi, rfl, hgi, _, _, _, _, y0, y1, y2, _, _⟩ := DeferW.own_at (own_below HR.out BW3.out (Nat.le_refl _)) hsx hlt
        have HS := Lib.hid hsx
        clear hsx
        by_cases h11 : x.1 = 11
        · obtain ⟨j0, j1⟩ := HJ.out k x HS.out h11
          by_cases hgt : (k : Int) ≤ x.2.1
          · have HM := Lib.hid (put_up h11 hgt)
            have hle := Lib.hid (fun V => least_any (x.2.1 + 1) 8 V)
            rw [h11] at y0
            clear h11
            go_wp2_with fail
            refine (hle.out _).mono ?_
            rintro e w9 ⟨rfl, rfl⟩
            generalize lst (x.2.1 + 1) 8 = la at *
            go_wp2_with (at_builtin; refine App.row_list _ rfl (.tmp 63) (.tmp 65) 66 rfl w1.heap.size 0 34 i0 _ 3 24 Try.underlying66 hi hz0 hz1 hz2 rfl (by decide) _ _ _ rfl ((YO.out.alloc _).alloc _) _ 1 [.int .i64 11, .int .i64 la, .int .i64 x.2.2] rfl (one3_own (by simpa using heap2_1 _ _ _)) (by intro u hu; simp at hu; rcases hu with rfl | rfl | rfl <;> rfl) (by unfold maxLen; omega) (by omega) (by have := Y.out.below.size; simp; omega) ?_)
            intro v5 w5 o5 g5 t5
            have N := Lib.hid ((Y.out.keep (((Below.refl _ _).alloc (Nat.le_refl _) _).alloc (by simp) _)).push (moveS k 1 x) g5 (by rw [List.length_append]; rw [HM.out]; exact o5))
            have E := Lib.hid (show hd k s xs (k + 1) = (hd k s xs k ++ [s]) ++ [moveS k 1 x] by rw [md_hd HS.out]; rw [HEQ.out])
            obtain ⟨A5, c5', rfl⟩ := own_slice o5
            clear o5 g5 t5
            go_wp2_with fail
            go_roundw
            case rel => exact ⟨k + 1, by omega, by go_num, ⟨_, _, by rw [E.out, List.length_append]; first | rfl | (rw [List.length_append]; rfl)⟩, by rw [E.out]; exact N.out⟩
            case measure => simp [intOf]; omega
          · have HM := Lib.hid (show moveS k 1 x = (11, x.2.1, x.2.2) by rw [put_id (fun h => hgt h.2), ← h11])
            have hd' : decide ((k : Int) ≤ x.2.1) = false := by simpa using hgt
            rw [h11] at y0
            clear h11 hgt
            go_wp2_with (at_builtin; refine App.row_list _ rfl (.tmp 63) (.tmp 65) 66 rfl w1.heap.size 0 34 i0 _ 3 24 Try.underlying66 hi hz0 hz1 hz2 rfl (by decide) _ _ _ rfl ((YO.out.alloc _).alloc _) _ 1 [.int .i64 11, .int .i64 x.2.1, .int .i64 x.2.2] rfl (one3_own (by simpa using heap2_1 _ _ _)) (by intro u hu; simp at hu; rcases hu with rfl | rfl | rfl <;> rfl) (by unfold maxLen; omega) (by omega) (by have := Y.out.below.size; simp; omega) ?_)
            intro v5 w5 o5 g5 t5
            have N := Lib.hid ((Y.out.keep (((Below.refl _ _).alloc (Nat.le_refl _) _).alloc (by simp) _)).push (moveS k 1 x) g5 (by rw [List.length_append]; rw [HM.out]; exact o5))
            have E := Lib.hid (show hd k s xs (k + 1) = (hd k s xs k ++ [s]) ++ [moveS k 1 x] by rw [md_hd HS.out]; rw [HEQ.out])
            obtain ⟨A5, c5', rfl⟩ := own_slice o5
            clear o5 g5 t5
            go_wp2_with fail
            go_roundw
            case rel => exact ⟨k + 1, by omega, by go_num, ⟨_, _, by rw [E.out, List.length_append]; first | rfl | (rw [List.length_append]; rfl)⟩, by rw [E.out]; exact N.out⟩
            case measure => simp [intOf]; omega
        · have HM := Lib.hid (show moveS k 1 x = x from put_id (fun h => h11 h.1))
          have hd' : (x.1 == 11) = false := by simpa using h11
          clear h11
          go_wp2_with (at_builtin; refine App.row_list _ rfl (.tmp 63) (.tmp 65) 66 rfl w1.heap.size 0 34 i0 _ 3 24 Try.underlying66 hi hz0 hz1 hz2 rfl (by decide) _ _ _ rfl ((YO.out.alloc _).alloc _) _ 1 [.int .i64 x.1, .int .i64 x.2.1, .int .i64 x.2.2] rfl (one3_own (by simpa using heap2_1 _ _ _)) (by intro u hu; simp at hu; rcases hu with rfl | rfl | rfl <;> rfl) (by unfold maxLen; omega) (by omega) (by have := Y.out.below.size; simp; omega) ?_)
          intro v5 w5 o5 g5 t5
          have N := Lib.hid ((Y.out.keep (((Below.refl _ _).alloc (Nat.le_refl _) _).alloc (by simp) _)).push (moveS k 1 x) g5 (by rw [List.length_append]; rw [HM.out]; exact o5))
          have E := Lib.hid (show hd k s xs (k + 1) = (hd k s xs k ++ [s]) ++ [moveS k 1 x] by rw [md_hd HS.out]; rw [HEQ.out])
          obtain ⟨A5, c5', rfl⟩ := own_slice o5
          clear o5 g5 t5
          go_wp2_with fail
          go_roundw
          case rel => exact ⟨k + 1, by omega, by go_num, ⟨_, _, by rw [E.out, List.length_append]; first | rfl | (rw [List.length_append]; rfl)⟩, by rw [E.out]; exact N.out⟩
          case measure => simp [intOf]; omega
      · have hte : xs.length = k := by omega
        have HT := Lib.hid hte
        clear hlt
        have HEQ' := Lib.hid (show hd k s xs k ++ [s] = (xs.map (moveS k 1)).take k ++ s :: (xs.map (moveS k 1)).drop k by rw [← HEQ.out, ← HMA.out, HT.out])
        obtain ⟨g, Ai2, ci2, e2, hlg, hgl, hc2, hf2, hrow2, hbd2, hne2, hput⟩ := OwnH_slot (OwnH.of O1.out) HX.out
        subst e2
        have C1 : Chg (fun b => (Value.slice Ai2 xs.length ci2).ownBlock = some b) w1 w3 := Chg.of_below Y.out.below
        have z7 : w3.cell? ⟨w1.heap.size + 1, 0, none⟩ = some (.slice (some ⟨g, 0, none⟩) n c2) := Y.out.box.cells 0
        have k2 : w3.cell? ⟨g, j, none⟩ = some (.slice Ai2 xs.length ci2) := (Y.out.below.cell (p := ⟨g, j, none⟩) hgl).trans hc2
        have f2 := hf2 w3 C1
        obtain ⟨m, hm⟩ : ∃ m, (hd k s xs k).length + 1 = m := ⟨_, rfl⟩
        have hlen : ((xs.map (moveS k 1)).take k ++ s :: (xs.map (moveS k 1)).drop k).length = m := by rw [← HEQ'.out, ← hm]; simp
        have hown := Y.out.own
        rw [HEQ'.out, hm, hlen] at hown
        have FIN := Lib.hid (hput w3 (.slice A3 m c3') ((xs.map (moveS k 1)).take k ++ s :: (xs.map (moveS k 1)).drop k) C1 (by rw [hlen]; exact own_mono hown HSZ.out.2) (fun x hx => .inr (hown.lt x hx).1))
        have D1r : Blk w3 (w.heap.size + 1 + 1) 30 #[.slice none 0 0] := D1.out.below Y.out.below D1.out.lt
        have X9 := Y.out.box
        have hsz := HSZ.out
        have bwr : Below w.heap.size w w3 := BB.out.trans (Y.out.below.mono BB.out.size)
        clear hown hlen
        rw [hm]
        obtain ⟨w5, hw5⟩ : ∃ w5, w3.setCell ⟨g, j, none⟩ (.slice A3 m c3') = w5 := ⟨_, rfl⟩
        have u7 : w5.cell? ⟨w1.heap.size + 1, 0, none⟩ = some (.slice (some ⟨g, 0, none⟩) n c2) := by rw [← hw5]; exact (X9.far _ _ (by show w1.heap.size + 1 ≠ g; omega)).cells 0
        have u1 : w5.cell? ⟨w.heap.size + 1 + 1, 0, none⟩ = some (.slice none 0 0) := by rw [← hw5]; exact (D1r.far _ _ (by show w.heap.size + 1 + 1 ≠ g; omega)).cells 0
        have fr1 : w5.frozen? ⟨w.heap.size + 1 + 1, 0, none⟩ = false := by rw [← hw5]; exact (D1r.far _ _ (by show w.heap.size + 1 + 1 ≠ g; omega)).frozen 0
        have b5 : Below w.heap.size w w5 := by rw [← hw5]; exact bwr.setCell (by show w.heap.size ≤ g; omega) _
        have FIN5 := Lib.hid (by have := FIN.out; rw [hw5] at this; exact this)
        clear hm
        go_wp2
        refine bodyPost_ret (v := .agg #[.slice (some ⟨g, 0, none⟩) n c2]) (by simp [results, Try.results53, go_sem, u1]) rfl ⟨_, _, rfl, ?_, ?_⟩
        · have o5 := OwnH.of FIN5.out
          exact ((o5.keep (w' := w5.setCell ⟨w.heap.size + 1 + 1, 0, none⟩ (.slice (some ⟨g, 0, none⟩) n c2)) (fun b h1 _ => Below.heap_setCell _ _ _ _ (by show b ≠ w.heap.size + 1 + 1; omega))).own.mono (show w.heap.size ≤ (three n c (some ⟨g0, 0, none⟩) s w).heap.size by omega))
        · exact b5.setCell (by show w.heap.size ≤ w.heap.size + 1 + 1; omega) _
    · by_cases hlt : t < xs.length
      · obtain ⟨x, hsx⟩ : ∃ x, xs[t]? = some x := ⟨_, List.getElem?_eq_getElem hlt⟩
        obtain ⟨gi, rfl, hgi, _, _, _, _, y0, y1, y2, _, _⟩ := DeferW.own_at (own_below HR.out BW.out (Nat.le_refl _)) hsx hlt
        have HS := Lib.hid hsx
        clear hsx
        by_cases h11 : x.1 = 11
        · obtain ⟨j0, j1⟩ := HJ.out t x HS.out h11
          by_cases hgt : (k : Int) ≤ x.2.1
          · have HM := Lib.hid (put_up h11 hgt)
            have hle := Lib.hid (fun V => least_any (x.2.1 + 1) 8 V)
            rw [h11] at y0
            clear h11
            go_wp2_with fail
            refine (hle.out _).mono ?_
            rintro e w9 ⟨rfl, rfl⟩
            generalize lst (x.2.1 + 1) 8 = la at *
            go_wp2_with (at_builtin; refine App.row_list _ rfl (.tmp 63) (.tmp 65) 66 rfl w1.heap.size 0 34 i0 _ 3 24 Try.underlying66 hi hz0 hz1 hz2 rfl (by decide) _ _ _ rfl ((X.out.own.alloc _).alloc _) _ 1 [.int .i64 11, .int .i64 la, .int .i64 x.2.2] rfl (one3_own (by simpa using heap2_1 _ _ _)) (by intro u hu; simp at hu; rcases hu with rfl | rfl | rfl <;> rfl) (by unfold maxLen; omega) (by omega) (by have := X.out.below.size; simp; omega) ?_)
            intro v5 w5 o5 g5 t5
            have N := Lib.hid ((X.out.keep (((Below.refl _ _).alloc (Nat.le_refl _) _).alloc (by simp) _)).push (moveS k 1 x) g5 (by rw [HM.out]; exact o5))
            have E := Lib.hid (show hd k s xs (t + 1) = hd k s xs t ++ [moveS k 1 x] by rw [md_hd HS.out]; rw [hd_md_ne htk])
            obtain ⟨A5, c5', rfl⟩ := own_slice o5
            clear o5 g5 t5
            go_wp2_with fail
            go_roundw
            case rel => exact ⟨t + 1, by omega, by go_num, ⟨_, _, by rw [E.out, List.length_append]; first | rfl | (rw [List.length_append]; rfl)⟩, by rw [E.out]; exact N.out⟩
            case measure => simp [intOf]; omega
          · have HM := Lib.hid (show moveS k 1 x = (11, x.2.1, x.2.2) by rw [put_id (fun h => hgt h.2), ← h11])
            have hd' : decide ((k : Int) ≤ x.2.1) = false := by simpa using hgt
            rw [h11] at y0
            clear h11 hgt
            go_wp2_with (at_builtin; refine App.row_list _ rfl (.tmp 63) (.tmp 65) 66 rfl w1.heap.size 0 34 i0 _ 3 24 Try.underlying66 hi hz0 hz1 hz2 rfl (by decide) _ _ _ rfl ((X.out.own.alloc _).alloc _) _ 1 [.int .i64 11, .int .i64 x.2.1, .int .i64 x.2.2] rfl (one3_own (by simpa using heap2_1 _ _ _)) (by intro u hu; simp at hu; rcases hu with rfl | rfl | rfl <;> rfl) (by unfold maxLen; omega) (by omega) (by have := X.out.below.size; simp; omega) ?_)
            intro v5 w5 o5 g5 t5
            have N := Lib.hid ((X.out.keep (((Below.refl _ _).alloc (Nat.le_refl _) _).alloc (by simp) _)).push (moveS k 1 x) g5 (by rw [HM.out]; exact o5))
            have E := Lib.hid (show hd k s xs (t + 1) = hd k s xs t ++ [moveS k 1 x] by rw [md_hd HS.out]; rw [hd_md_ne htk])
            obtain ⟨A5, c5', rfl⟩ := own_slice o5
            clear o5 g5 t5
            go_wp2_with fail
            go_roundw
            case rel => exact ⟨t + 1, by omega, by go_num, ⟨_, _, by rw [E.out, List.length_append]; first | rfl | (rw [List.length_append]; rfl)⟩, by rw [E.out]; exact N.out⟩
            case measure => simp [intOf]; omega
        · have HM := Lib.hid (show moveS k 1 x = x from put_id (fun h => h11 h.1))
          have hd' : (x.1 == 11) = false := by simpa using h11
          clear h11
          go_wp2_with (at_builtin; refine App.row_list _ rfl (.tmp 63) (.tmp 65) 66 rfl w1.heap.size 0 34 i0 _ 3 24 Try.underlying66 hi hz0 hz1 hz2 rfl (by decide) _ _ _ rfl ((X.out.own.alloc _).alloc _) _ 1 [.int .i64 x.1, .int .i64 x.2.1, .int .i64 x.2.2] rfl (one3_own (by simpa using heap2_1 _ _ _)) (by intro u hu; simp at hu; rcases hu with rfl | rfl | rfl <;> rfl) (by unfold maxLen; omega) (by omega) (by have := X.out.below.size; simp; omega) ?_)
          intro v5 w5 o5 g5 t5
          have N := Lib.hid ((X.out.keep (((Below.refl _ _).alloc (Nat.le_refl _) _).alloc (by simp) _)).push (moveS k 1 x) g5 (by rw [HM.out]; exact o5))
          have E := Lib.hid (show hd k s xs (t + 1) = hd k s xs t ++ [moveS k 1 x] by rw [md_hd HS.out]; rw [hd_md_ne htk])
          obtain ⟨A5, c5', rfl⟩ := own_slice o5
          clear o5 g5 t5
          go_wp2_with fail
          go_roundw
          case rel => exact ⟨t + 1, by omega, by go_num, ⟨_, _, by rw [E.out, List.length_append]; first | rfl | (rw [List.length_append]; rfl)⟩, by rw [E.out]; exact N.out⟩
          case measure => simp [intOf]; omega
      · have hte : xs.length = t := by omega
        have HT := Lib.hid hte
        clear hlt
        have HEQ' := Lib.hid (show hd k s xs t = (xs.map (moveS k 1)).take k ++ s :: (xs.map (moveS k 1)).drop k by rw [← hd_md_ne htk, ← HMA.out, HT.out])
        obtain ⟨g, Ai2, ci2, e2, hlg, hgl, hc2, hf2, hrow2, hbd2, hne2, hput⟩ := OwnH_slot (OwnH.of O1.out) HX.out
        subst e2
        have C1 : Chg (fun b => (Value.slice Ai2 xs.length ci2).ownBlock = some b) w1 wr := Chg.of_below X.out.below
        have z7 : wr.cell? ⟨w1.heap.size + 1, 0, none⟩ = some (.slice (some ⟨g, 0, none⟩) n c2) := X.out.box.cells 0
        have k2 : wr.cell? ⟨g, j, none⟩ = some (.slice Ai2 xs.length ci2) := (X.out.below.cell (p := ⟨g, j, none⟩) hgl).trans hc2
        have f2 := hf2 wr C1
        obtain ⟨m, hm⟩ : ∃ m, (hd k s xs t).length = m := ⟨_, rfl⟩
        have hlen : ((xs.map (moveS k 1)).take k ++ s :: (xs.map (moveS k 1)).drop k).length = m := by rw [← HEQ'.out, ← hm]
        have hown := X.out.own
        rw [hm, HEQ'.out] at hown
        have FIN := Lib.hid (hput wr (.slice Av m cv) ((xs.map (moveS k 1)).take k ++ s :: (xs.map (moveS k 1)).drop k) C1 (by rw [hlen]; exact own_mono hown HSZ.out.2) (fun x hx => .inr (hown.lt x hx).1))
        have D1r : Blk wr (w.heap.size + 1 + 1) 30 #[.slice none 0 0] := D1.out.below X.out.below D1.out.lt
        have X9 := X.out.box
        have hsz := HSZ.out
        have bwr : Below w.heap.size w wr := BB.out.trans (X.out.below.mono BB.out.size)
        clear hown hlen
        rw [hm]
        obtain ⟨w5, hw5⟩ : ∃ w5, wr.setCell ⟨g, j, none⟩ (.slice Av m cv) = w5 := ⟨_, rfl⟩
        have u7 : w5.cell? ⟨w1.heap.size + 1, 0, none⟩ = some (.slice (some ⟨g, 0, none⟩) n c2) := by rw [← hw5]; exact (X9.far _ _ (by show w1.heap.size + 1 ≠ g; omega)).cells 0
        have u1 : w5.cell? ⟨w.heap.size + 1 + 1, 0, none⟩ = some (.slice none 0 0) := by rw [← hw5]; exact (D1r.far _ _ (by show w.heap.size + 1 + 1 ≠ g; omega)).cells 0
        have fr1 : w5.frozen? ⟨w.heap.size + 1 + 1, 0, none⟩ = false := by rw [← hw5]; exact (D1r.far _ _ (by show w.heap.size + 1 + 1 ≠ g; omega)).frozen 0
        have b5 : Below w.heap.size w w5 := by rw [← hw5]; exact bwr.setCell (by show w.heap.size ≤ g; omega) _
        have FIN5 := Lib.hid (by have := FIN.out; rw [hw5] at this; exact this)
        clear hm
        go_wp2
        refine bodyPost_ret (v := .agg #[.slice (some ⟨g, 0, none⟩) n c2]) (by simp [results, Try.results53, go_sem, u1]) rfl ⟨_, _, rfl, ?_, ?_⟩
        · have o5 := OwnH.of FIN5.out
          exact ((o5.keep (w' := w5.setCell ⟨w.heap.size + 1 + 1, 0, none⟩ (.slice (some ⟨g, 0, none⟩) n c2)) (fun b h1 _ => Below.heap_setCell _ _ _ _ (by show b ≠ w.heap.size + 1 + 1; omega))).own.mono (show w.heap.size ≤ (three n c (some ⟨g0, 0, none⟩) s w).heap.size by omega))
        · exact b5.setCell (by show w.heap.size ≤ w.heap.size + 1 + 1; omega) _
end Go.Proofs.Ytgfjdfmmkomolaa.PutS
