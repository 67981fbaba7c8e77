/- What the model's reading of a numeral returns, for every string of at most 1048576 bytes. -/
import Derived.Test.YtlcgfohljkcngaaDoorNum
import Derived.Test.YtlcgfohljkcngaaDoorReadPlain
import Derived.WalkSpells
namespace Go.Proofs.YtlcgfohljkcngaaDoor.NumRead
open Go.ChangeShapes Go.WideShapes Go.ChangeAt Go.RowKit
open Num ReadPlain
theorem in_yes (x a b : Int) (h0 : a ≤ x) (h1 : x ≤ b) (w : World) :
    Calls Tryd.prog 24 #[.int .i64 x, .int .i64 a, .int .i64 b] w fun e w' => e = .returned (.bool true) ∧ w = w' := by
  have t1 : decide (x ≤ b) = true := by simpa using h1
  go_enter Tryd.func24, Tryd.ntmps24
  go_wp2
  go_ret
  exact ⟨rfl, rfl⟩
theorem in_no (x a b : Int) (h : x < a ∨ b < x) (w : World) :
    Calls Tryd.prog 24 #[.int .i64 x, .int .i64 a, .int .i64 b] w fun e w' => e = .returned (.bool false) ∧ w = w' := by
  by_cases h1 : x < a
  · have h1' : ¬ a ≤ x := by omega
    go_enter Tryd.func24, Tryd.ntmps24
    go_wp2
    go_ret
    exact ⟨rfl, rfl⟩
  · have h1' : a ≤ x := by omega
    have t1 : decide (x ≤ b) = false := by simp; omega
    go_enter Tryd.func24, Tryd.ntmps24
    go_wp2
    go_ret
    exact ⟨rfl, rfl⟩
theorem ba_toList (s : ByteArray) : s.toList = s.data.toList := ByteArray.toList_eq s
def Out (o : Option Int) (w : World) (e : Ending) (w' : World) : Prop := e = .returned (.tuple #[.int .i64 (out o).1, .bool (out o).2]) ∧ ∃ q, w' = w.drewN q
set_option maxHeartbeats 1000000 in
theorem read_pos (s : ByteArray) (w : World) (hs : s.size ≤ 1048576) (h0 : ¬ 1 < s.size) (ht : Hid (tailOf s.data.toList = s.data.toList)) :
    Calls Tryd.prog 29 #[.string s] w (Out (rd s.data.toList) w) := by
  have hz : s.data.toList.length = s.size := by simp
  by_cases hb : s.size < 1 ∨ 6 < s.size
  · have hr : Hid (rd s.data.toList = none) := Lib.hid (by unfold rd; rw [ht.out, if_neg (by omega)])
    clear hz
    go_enter Tryd.func29, Tryd.ntmps29
    go_wp2_with (go_at_call 24; refine (in_no _ _ _ (by omega) _).mono ?_; rintro e w' ⟨rfl, rfl⟩)
    go_ret2
    exact ⟨by rw [hr.out]; rfl, 0, rfl⟩
  · have b0 : 1 ≤ s.size := by omega
    have b1 : s.size ≤ 6 := by omega
    have hr : Hid (rd s.data.toList = rdT s.data.toList s.data.toList) := Lib.hid (by unfold rd; rw [ht.out, if_pos (by omega)])
    clear hz hb
    go_enter Tryd.func29, Tryd.ntmps29
    go_wp2_with (go_at_call 24; refine (in_yes _ _ _ (by omega) (by omega) _).mono ?_; rintro e w' ⟨rfl, rfl⟩)
    have hT6 : s.size ≤ 6 := by omega
    have htk : Hid (∀ l : List UInt8, digs l = true → l.length ≤ 6 → 0 ≤ val l ∧ val l < 1000000) := Lib.hid (fun l hd hl => by
      obtain ⟨a, b⟩ := val_bd l hd
      have : (10 ^ l.length : Nat) ≤ 10 ^ 6 := Nat.pow_le_pow_right (by omega) hl
      omega)
    go_loop [5, 6] (fun n i => ∃ k : Nat, k ≤ s.size ∧ i = .int .i64 k ∧ n = .int .i64 (val (s.data.toList.take k)) ∧ digs (s.data.toList.take k) = true) (fun _ i => s.size - (intOf i).toNat)
    case atStart => exact ⟨0, Nat.zero_le _, rfl, rfl, rfl⟩
    case round =>
      obtain ⟨k, hk, rfl, rfl, hdk⟩ := hrel
      have hvk := htk.out _ hdk (by rw [List.length_take]; omega)
      obtain ⟨hv0, hv1⟩ := hvk
      by_cases hlt : k < s.size
      · have hdn := Lib.hid (digs_next s k hlt)
        have hvn := Lib.hid (val_next s k hlt)
        have hno := Lib.hid (digs_no s k hlt)
        have hdK := Lib.hid hdk
        clear hdk
        generalize hc : val (s.data.toList.take k) = v at *
        have hc' := Lib.hid hc
        clear hc
        by_cases hd : dg1 s[k] = true
        · have hd2 := Lib.hid hd
          rw [dg1_iff] at hd
          obtain ⟨d0, d1⟩ := hd
          have d0' : (48 : Int) ≤ s[k].toNat := by omega
          have d1' : (s[k].toNat : Int) ≤ 57 := by omega
          clear d0 d1 hno
          go_wp2
          go_round
          case rel => exact ⟨k + 1, by omega, by go_num, by rw [hvn.out], by rw [hdn.out, hdK.out, hd2.out]; rfl⟩
          case measure => simp [intOf]; omega
        · have hn2 : Hid (digs s.data.toList = false) := Lib.hid (hno.out (by simpa using hd))
          have hq : s[k].toNat < 48 ∨ 57 < s[k].toNat := by
            rw [dg1_iff] at hd; omega
          clear hd hno
          rcases hq with hq | hq
          · have hq' : (s[k].toNat : Int) < 48 := by omega
            clear hq
            go_wp2
            go_ret2
            exact ⟨by rw [hr.out, rdT, if_neg (by rw [hn2.out]; simp)]; rfl, 0, rfl⟩
          · have hq' : (57 : Int) < s[k].toNat := by omega
            have hq2 : ¬ (s[k].toNat : Int) < 48 := by omega
            clear hq
            go_wp2
            go_ret2
            exact ⟨by rw [hr.out, rdT, if_neg (by rw [hn2.out]; simp)]; rfl, 0, rfl⟩
      · have hke : s.data.toList.take k = s.data.toList := List.take_of_length_le (by simp; omega)
        rw [hke] at hdk hv0 hv1 ⊢
        have hsg : Hid (sgn s.data.toList s.data.toList = val s.data.toList) := Lib.hid (by unfold sgn; rw [if_neg (by omega)])
        have hdK := Lib.hid hdk
        clear hdk hke
        generalize hc : val s.data.toList = v at *
        have hc' := Lib.hid hc
        clear hc
        have hsl : s.toList = s.data.toList := ba_toList s
        by_cases he : Lib.itoa (v) = s.data.toList
        · have hB : (!Lib.itoa (v) == s.toList) = false := by rw [hsl, he]; simp
          have hE := Lib.hid he
          clear he hsl
          go_wp2_with (go_at_call 25; refine (num_any _ (by omega) (by omega) _).mono ?_; rintro e w' ⟨rfl, q, rfl⟩)
          go_ret2
          exact ⟨by rw [hr.out, rdT, hsg.out, if_pos ⟨hdK.out, hE.out⟩]; rfl, _, rfl⟩
        · have hB : (!Lib.itoa (v) == s.toList) = true := by rw [hsl]; simp [he]
          have hE := Lib.hid he
          clear he hsl
          go_wp2_with (go_at_call 25; refine (num_any _ (by omega) (by omega) _).mono ?_; rintro e w' ⟨rfl, q, rfl⟩)
          go_ret2
          exact ⟨by rw [hr.out, rdT, hsg.out, if_neg (fun hh => hE.out hh.2)]; rfl, _, rfl⟩
set_option maxHeartbeats 1000000 in
theorem read_pos1 (s : ByteArray) (w : World) (hs : s.size ≤ 1048576) (h0 : 1 < s.size) (h1 : ((s[0].toNat : Int) == 45) = false) (ht : Hid (tailOf s.data.toList = s.data.toList)) :
    Calls Tryd.prog 29 #[.string s] w (Out (rd s.data.toList) w) := by
  have hz : s.data.toList.length = s.size := by simp
  by_cases hb : s.size < 1 ∨ 6 < s.size
  · have hr : Hid (rd s.data.toList = none) := Lib.hid (by unfold rd; rw [ht.out, if_neg (by omega)])
    clear hz
    go_enter Tryd.func29, Tryd.ntmps29
    go_wp2_with (go_at_call 24; refine (in_no _ _ _ (by omega) _).mono ?_; rintro e w' ⟨rfl, rfl⟩)
    go_ret2
    exact ⟨by rw [hr.out]; rfl, 0, rfl⟩
  · have b0 : 1 ≤ s.size := by omega
    have b1 : s.size ≤ 6 := by omega
    have hr : Hid (rd s.data.toList = rdT s.data.toList s.data.toList) := Lib.hid (by unfold rd; rw [ht.out, if_pos (by omega)])
    clear hz hb
    go_enter Tryd.func29, Tryd.ntmps29
    go_wp2_with (go_at_call 24; refine (in_yes _ _ _ (by omega) (by omega) _).mono ?_; rintro e w' ⟨rfl, rfl⟩)
    have hT6 : s.size ≤ 6 := by omega
    have htk : Hid (∀ l : List UInt8, digs l = true → l.length ≤ 6 → 0 ≤ val l ∧ val l < 1000000) := Lib.hid (fun l hd hl => by
      obtain ⟨a, b⟩ := val_bd l hd
      have : (10 ^ l.length : Nat) ≤ 10 ^ 6 := Nat.pow_le_pow_right (by omega) hl
      omega)
    go_loop [5, 6] (fun n i => ∃ k : Nat, k ≤ s.size ∧ i = .int .i64 k ∧ n = .int .i64 (val (s.data.toList.take k)) ∧ digs (s.data.toList.take k) = true) (fun _ i => s.size - (intOf i).toNat)
    case atStart => exact ⟨0, Nat.zero_le _, rfl, rfl, rfl⟩
    case round =>
      obtain ⟨k, hk, rfl, rfl, hdk⟩ := hrel
      have hvk := htk.out _ hdk (by rw [List.length_take]; omega)
      obtain ⟨hv0, hv1⟩ := hvk
      by_cases hlt : k < s.size
      · have hdn := Lib.hid (digs_next s k hlt)
        have hvn := Lib.hid (val_next s k hlt)
        have hno := Lib.hid (digs_no s k hlt)
        have hdK := Lib.hid hdk
        clear hdk
        generalize hc : val (s.data.toList.take k) = v at *
        have hc' := Lib.hid hc
        clear hc
        by_cases hd : dg1 s[k] = true
        · have hd2 := Lib.hid hd
          rw [dg1_iff] at hd
          obtain ⟨d0, d1⟩ := hd
          have d0' : (48 : Int) ≤ s[k].toNat := by omega
          have d1' : (s[k].toNat : Int) ≤ 57 := by omega
          clear d0 d1 hno
          go_wp2
          go_round
          case rel => exact ⟨k + 1, by omega, by go_num, by rw [hvn.out], by rw [hdn.out, hdK.out, hd2.out]; rfl⟩
          case measure => simp [intOf]; omega
        · have hn2 : Hid (digs s.data.toList = false) := Lib.hid (hno.out (by simpa using hd))
          have hq : s[k].toNat < 48 ∨ 57 < s[k].toNat := by
            rw [dg1_iff] at hd; omega
          clear hd hno
          rcases hq with hq | hq
          · have hq' : (s[k].toNat : Int) < 48 := by omega
            clear hq
            go_wp2
            go_ret2
            exact ⟨by rw [hr.out, rdT, if_neg (by rw [hn2.out]; simp)]; rfl, 0, rfl⟩
          · have hq' : (57 : Int) < s[k].toNat := by omega
            have hq2 : ¬ (s[k].toNat : Int) < 48 := by omega
            clear hq
            go_wp2
            go_ret2
            exact ⟨by rw [hr.out, rdT, if_neg (by rw [hn2.out]; simp)]; rfl, 0, rfl⟩
      · have hke : s.data.toList.take k = s.data.toList := List.take_of_length_le (by simp; omega)
        rw [hke] at hdk hv0 hv1 ⊢
        have hsg : Hid (sgn s.data.toList s.data.toList = val s.data.toList) := Lib.hid (by unfold sgn; rw [if_neg (by omega)])
        have hdK := Lib.hid hdk
        clear hdk hke
        generalize hc : val s.data.toList = v at *
        have hc' := Lib.hid hc
        clear hc
        have hsl : s.toList = s.data.toList := ba_toList s
        by_cases he : Lib.itoa (v) = s.data.toList
        · have hB : (!Lib.itoa (v) == s.toList) = false := by rw [hsl, he]; simp
          have hE := Lib.hid he
          clear he hsl
          go_wp2_with (go_at_call 25; refine (num_any _ (by omega) (by omega) _).mono ?_; rintro e w' ⟨rfl, q, rfl⟩)
          go_ret2
          exact ⟨by rw [hr.out, rdT, hsg.out, if_pos ⟨hdK.out, hE.out⟩]; rfl, _, rfl⟩
        · have hB : (!Lib.itoa (v) == s.toList) = true := by rw [hsl]; simp [he]
          have hE := Lib.hid he
          clear he hsl
          go_wp2_with (go_at_call 25; refine (num_any _ (by omega) (by omega) _).mono ?_; rintro e w' ⟨rfl, q, rfl⟩)
          go_ret2
          exact ⟨by rw [hr.out, rdT, hsg.out, if_neg (fun hh => hE.out hh.2)]; rfl, _, rfl⟩
theorem tail_data (s : ByteArray) : (s.extract 1 s.size).data.toList = s.data.toList.tail := by
  simp [ByteArray.data_extract, List.drop_one]
  exact List.take_of_length_le (by simp)
theorem head_data (s : ByteArray) (h0 : 1 < s.size) (h1 : ((s[0].toNat : Int) == 45) = true) : tailOf s.data.toList = s.data.toList.tail := by
  unfold tailOf
  rw [if_pos]
  have e0 : (s[0].toNat : Int) = 45 := by simpa using h1
  have e : s[0].toNat = 45 := by omega
  have e2 : s[0] = 45 := UInt8.toNat_inj.1 e
  have hl : 0 < s.data.toList.length := by simp; omega
  refine ⟨by simp; omega, ?_⟩
  rw [List.head?_eq_getElem?, List.getElem?_eq_getElem hl, ← e2]
  rfl
set_option maxHeartbeats 1000000 in
theorem read_neg (s : ByteArray) (w : World) (hs : s.size ≤ 1048576) (h0 : 1 < s.size) (h1 : ((s[0].toNat : Int) == 45) = true) :
    Calls Tryd.prog 29 #[.string s] w (Out (rd s.data.toList) w) := by
  have ht := Lib.hid (head_data s h0 h1)
  have htd := Lib.hid (tail_data s)
  have hts : (s.extract 1 s.size).size = s.size - 1 := by simp
  have hsz := Lib.hid hts
  clear hts
  have hz : s.data.toList.tail.length = s.size - 1 := by simp
  by_cases hb : 7 < s.size
  · have hr : Hid (rd s.data.toList = none) := Lib.hid (by unfold rd; rw [ht.out, if_neg (by omega)])
    clear hz
    go_enter Tryd.func29, Tryd.ntmps29
    go_wp2_with (go_at_call 24; refine (in_no _ _ _ (by omega) _).mono ?_; rintro e w' ⟨rfl, rfl⟩)
    go_ret2
    exact ⟨by rw [hr.out]; rfl, 0, rfl⟩
  · have b1 : s.size ≤ 7 := by omega
    have hr0 : Hid (rd s.data.toList = rdT s.data.toList s.data.toList.tail) := Lib.hid (by unfold rd; rw [ht.out, if_pos (by omega)])
    clear hz hb
    go_enter Tryd.func29, Tryd.ntmps29
    go_wp2_with (go_at_call 24; refine (in_yes _ _ _ (by omega) (by omega) _).mono ?_; rintro e w' ⟨rfl, rfl⟩)
    obtain ⟨T, hT⟩ : ∃ T, s.extract 1 s.size = T := ⟨_, rfl⟩
    have hr : Hid (rd s.data.toList = rdT s.data.toList T.data.toList) := Lib.hid (by rw [hr0.out, ← hT, htd.out])
    have hTs : T.size = s.size - 1 := by rw [← hT]; exact hsz.out
    rw [hT]
    have hTl : T.data.toList.length = T.size := by simp
    have hsl0 : s.data.toList.length = s.size := by simp
    clear hT htd hr0 hsz
    have c0 : T.size + 1 ≤ s.size := by omega
    have c1 : s.size ≤ T.size + 1 := by omega
    clear hTs
    have c2 : (T.size : Int) < s.size := by omega
    have hT6 : T.size ≤ 6 := by omega
    have htk : Hid (∀ l : List UInt8, digs l = true → l.length ≤ 6 → 0 ≤ val l ∧ val l < 1000000) := Lib.hid (fun l hd hl => by
      obtain ⟨a, b⟩ := val_bd l hd
      have : (10 ^ l.length : Nat) ≤ 10 ^ 6 := Nat.pow_le_pow_right (by omega) hl
      omega)
    go_loop [5, 6] (fun n i => ∃ k : Nat, k ≤ T.size ∧ i = .int .i64 k ∧ n = .int .i64 (val (T.data.toList.take k)) ∧ digs (T.data.toList.take k) = true) (fun _ i => T.size - (intOf i).toNat)
    case atStart => exact ⟨0, Nat.zero_le _, rfl, rfl, rfl⟩
    case round =>
      obtain ⟨k, hk, rfl, rfl, hdk⟩ := hrel
      have hvk := htk.out _ hdk (by rw [List.length_take]; omega)
      obtain ⟨hv0, hv1⟩ := hvk
      by_cases hlt : k < T.size
      · have hdn := Lib.hid (digs_next T k hlt)
        have hvn := Lib.hid (val_next T k hlt)
        have hno := Lib.hid (digs_no T k hlt)
        have hdK := Lib.hid hdk
        clear hdk
        generalize hc : val (T.data.toList.take k) = v at *
        have hc' := Lib.hid hc
        clear hc
        by_cases hd : dg1 T[k] = true
        · have hd2 := Lib.hid hd
          rw [dg1_iff] at hd
          obtain ⟨d0, d1⟩ := hd
          have d0' : (48 : Int) ≤ T[k].toNat := by omega
          have d1' : (T[k].toNat : Int) ≤ 57 := by omega
          clear d0 d1 hno
          go_wp2
          go_round
          case rel => exact ⟨k + 1, by omega, by go_num, by rw [hvn.out], by rw [hdn.out, hdK.out, hd2.out]; rfl⟩
          case measure => simp [intOf]; omega
        · have hn2 : Hid (digs T.data.toList = false) := Lib.hid (hno.out (by simpa using hd))
          have hq : T[k].toNat < 48 ∨ 57 < T[k].toNat := by
            rw [dg1_iff] at hd; omega
          clear hd hno
          rcases hq with hq | hq
          · have hq' : (T[k].toNat : Int) < 48 := by omega
            clear hq
            go_wp2
            go_ret2
            exact ⟨by rw [hr.out, rdT, if_neg (by rw [hn2.out]; simp)]; rfl, 0, rfl⟩
          · have hq' : (57 : Int) < T[k].toNat := by omega
            have hq2 : ¬ (T[k].toNat : Int) < 48 := by omega
            clear hq
            go_wp2
            go_ret2
            exact ⟨by rw [hr.out, rdT, if_neg (by rw [hn2.out]; simp)]; rfl, 0, rfl⟩
      · have hke : T.data.toList.take k = T.data.toList := List.take_of_length_le (by simp; omega)
        rw [hke] at hdk hv0 hv1 ⊢
        have hsg : Hid (sgn s.data.toList T.data.toList = -val T.data.toList) := Lib.hid (by unfold sgn; rw [if_pos (by rw [hTl, hsl0]; omega)])
        have hdK := Lib.hid hdk
        clear hdk hke
        generalize hc : val T.data.toList = v at *
        have hc' := Lib.hid hc
        clear hc
        have hsl : s.toList = s.data.toList := ba_toList s
        by_cases he : Lib.itoa (-v) = s.data.toList
        · have hB : (!Lib.itoa (-v) == s.toList) = false := by rw [hsl, he]; simp
          have hE := Lib.hid he
          clear he hsl
          go_wp2_with (go_at_call 25; refine (num_any _ (by omega) (by omega) _).mono ?_; rintro e w' ⟨rfl, q, rfl⟩)
          go_ret2
          exact ⟨by rw [hr.out, rdT, hsg.out, if_pos ⟨hdK.out, hE.out⟩]; rfl, _, rfl⟩
        · have hB : (!Lib.itoa (-v) == s.toList) = true := by rw [hsl]; simp [he]
          have hE := Lib.hid he
          clear he hsl
          go_wp2_with (go_at_call 25; refine (num_any _ (by omega) (by omega) _).mono ?_; rintro e w' ⟨rfl, q, rfl⟩)
          go_ret2
          exact ⟨by rw [hr.out, rdT, hsg.out, if_neg (fun hh => hE.out hh.2)]; rfl, _, rfl⟩
/-- The model's reading. -/
theorem read_any (s : ByteArray) (w : World) (hs : s.size ≤ 1048576) : Calls Tryd.prog 29 #[.string s] w (Out (rd s.data.toList) w) := by
  by_cases h0 : 1 < s.size
  · by_cases h1 : ((s[0].toNat : Int) == 45) = true
    · exact read_neg s w hs h0 h1
    · refine read_pos1 s w hs h0 (by simpa using h1) (Lib.hid ?_)
      unfold tailOf
      rw [if_neg]
      rintro ⟨_, hh⟩
      have hl : 0 < s.data.toList.length := by simp; omega
      rw [List.head?_eq_getElem?, List.getElem?_eq_getElem hl] at hh
      have e : s[0] = 45 := Option.some.inj hh
      rw [e] at h1
      exact h1 rfl
  · refine read_pos s w hs h0 (Lib.hid ?_)
    unfold tailOf
    rw [if_neg]
    rintro ⟨hh, _⟩
    have : s.data.toList.length = s.size := by simp
    omega
theorem specParse (s : ByteArray) (w : World) (hs : s.size ≤ 1048576) : Calls Tryd.prog 14 #[.string s] w (Out (rd s.data.toList) w) := by
  have hr := Lib.hid (fun w => read_any s w hs)
  generalize rd s.data.toList = o at *
  go_enter Tryd.func14, Tryd.ntmps14
  go_wp2_with (go_at_call 29; refine (hr.out _).mono ?_; rintro e w' ⟨rfl, q, rfl⟩)
  go_ret2
  exact ⟨rfl, _, rfl⟩
end Go.Proofs.YtlcgfohljkcngaaDoor.NumRead
