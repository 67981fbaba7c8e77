/- What AppendChecksum of the program and of the model return: both the sealed string and true for a string of at most 4000 bytes without the sign whose sealed form has at most 4000 bytes, else the empty text and false; the program's where the table of powers of ten holds these. -/
import Derived.Test.YtlcgfohljkcngaaDoorSum
import Derived.Test.YtlcgfohljkcngaaDoorShelfB
import Derived.Test.YtlcgfohljkcngaaDoorFmt
import Derived.Lib.IndexLaws
import Derived.WalkSpells
namespace Go.Proofs.YtlcgfohljkcngaaDoor.Seal
open Go.ChangeShapes Go.WideShapes Go.ChangeAt Go.RowKit
open Laid Num Fmt SumPlain CkSum
def sealB (s : ByteArray) : ByteArray := s ++ ⟨#[35]⟩ ++ ⟨(Lib.itoa (ck s.data.toList)).toArray⟩
theorem sealB_size (s : ByteArray) : (sealB s).size = s.size + 1 + (Lib.itoa (ck s.data.toList)).length := by
  have e : (⟨#[35]⟩ : ByteArray).size = 1 := rfl
  have e2 : (⟨(Lib.itoa (ck s.data.toList)).toArray⟩ : ByteArray).size = (Lib.itoa (ck s.data.toList)).length := by simp [ByteArray.size]
  rw [sealB, ByteArray.size_append, ByteArray.size_append, e, e2]
theorem sealB_list (s : ByteArray) : (sealB s).data.toList = s.data.toList ++ 35 :: Lib.itoa (ck s.data.toList) := by
  simp [sealB, ByteArray.data_append]
theorem num_len (l : List UInt8) : (Lib.itoa (ck l)).length ≤ 7 := by
  have := ck_bd l
  exact itoa_len _ (by omega) (by omega)
set_option maxHeartbeats 400000 in
theorem seal_any (s : ByteArray) (hs : s.size ≤ 1048576) (w : World) :
    Calls Tryd.prog 34 #[.string s] w fun e w' => e = .returned (.string (sealB s)) ∧ ∃ q, w' = w.drewN q := by
  have hm : s.size ≤ maxLen := by unfold maxLen; omega
  have hc := ck_bd s.data.toList
  obtain ⟨c0, c1⟩ := hc
  have hl := num_len s.data.toList
  have hB : Hid (∀ c, c = ck s.data.toList → sealB s = s ++ ⟨#[35]⟩ ++ ⟨(Lib.itoa c).toArray⟩) := Lib.hid (fun c h => by rw [h]; rfl)
  have hS := Lib.hid (fun w => l1Sum_any s w hm)
  generalize hg : ck s.data.toList = c at *
  have hg' := Lib.hid hg
  clear hg hm
  go_enter Tryd.func34, Tryd.ntmps34
  go_wp2_with (first | (go_at_call 42; refine (hS.out _).mono ?_; rintro e w' ⟨rfl, rfl⟩) | (go_at_call 25; refine (num_any _ (by omega) (by omega) _).mono ?_; rintro e w' ⟨rfl, q, rfl⟩))
  go_ret
  exact ⟨by rw [hB.out c rfl]; rfl, _, rfl⟩
def has (l : List UInt8) (b : UInt8) : Bool := l.any (fun c => c == b)
theorem has_next (s : ByteArray) (k : Nat) (h : k < s.size) (b : UInt8) : has (s.data.toList.take (k + 1)) b = (has (s.data.toList.take k) b || s[k] == b) := by
  rw [take_snoc s k h]; simp [has]
theorem has_yes (s : ByteArray) (k : Nat) (h : k < s.size) (b : UInt8) (e : (s[k] == b) = true) : has s.data.toList b = true := by
  rw [has, List.any_eq_true]
  exact ⟨s[k], by show s.data[k] ∈ _; simp, e⟩
set_option maxHeartbeats 400000 in
theorem stands_any (s : ByteArray) (hs : s.size ≤ 1048576) (b : UInt8) (w : World) :
    Calls Tryd.prog 33 #[.string s, .int .u8 b.toNat] w fun e w' => e = .returned (.bool (has s.data.toList b)) ∧ w = w' := by
  go_enter Tryd.func33, Tryd.ntmps33
  go_wp2
  go_loop [5] (fun i => ∃ k : Nat, k ≤ s.size ∧ i = .int .i64 k ∧ has (s.data.toList.take k) b = false) (fun i => s.size - (intOf i).toNat)
  case atStart => exact ⟨0, Nat.zero_le _, rfl, rfl⟩
  case round =>
    obtain ⟨k, hk, rfl, hno⟩ := hrel
    have hN := Lib.hid hno
    clear hno
    by_cases hlt : k < s.size
    · have hnx := Lib.hid (has_next s k hlt b)
      by_cases hb : s[k] = b
      · have hyes := Lib.hid (has_yes s k hlt b (by simp [hb]))
        have ht : ((s[k].toNat : Int) == b.toNat) = true := by rw [hb]; simp
        clear hb
        go_wp2
        go_ret
        exact ⟨by rw [hyes.out]; rfl, rfl⟩
      · have hne : (s[k] == b) = false := by simp [hb]
        have ht : ((s[k].toNat : Int) == b.toNat) = false := by
          rw [beq_eq_false_iff_ne]; intro e; exact hb (UInt8.toNat_inj.1 (by omega))
        have hne' := Lib.hid hne
        clear hb hne
        go_wp2
        go_round
        case rel => exact ⟨k + 1, by omega, by go_num, by rw [hnx.out, hN.out, hne'.out]; rfl⟩
        case measure => simp [intOf]; omega
    · have hke : Hid (has s.data.toList b = false) := Lib.hid (by have := hN.out; rwa [List.take_of_length_le (by simp; omega)] at this)
      go_wp2
      go_ret
      exact ⟨by rw [hke.out]; rfl, rfl⟩
theorem index_has (l : List UInt8) (b : UInt8) : decide (0 ≤ Lib.indexByte l b) = has l b := by
  induction l with
  | nil => rfl
  | cons a l ih =>
    unfold Lib.indexByte has
    simp only [List.any_cons]
    by_cases h : (a == b) = true
    · rw [if_pos h, h]; rfl
    · have h' : (a == b) = false := by simpa using h
      rw [if_neg h, h', Bool.false_or]
      have hg := Lib.indexByte_ge l b
      have ih' : decide (0 ≤ Lib.indexByte l b) = l.any (fun c => c == b) := ih
      rw [← ih']
      by_cases h1 : Lib.indexByte l b = -1
      · rw [h1]; rfl
      · rw [if_neg (by simpa using h1)]
        congr 1
        apply propext
        omega
theorem contains_any (s : ByteArray) (w : World) :
    Calls Tryd.prog 32 #[.string s, .string ⟨#[35]⟩] w fun e w' => e = .returned (.bool (has s.data.toList 35)) ∧ w = w' :=
  (Tryd.strings_Contains_one s 35 w).mono fun e w' ⟨he, hw⟩ => ⟨by rw [he, index_has], hw.symm⟩
/-- What both come to. -/
def app (s : ByteArray) : Option ByteArray := if s.size ≤ 4000 ∧ has s.data.toList 35 = false ∧ (sealB s).size ≤ 4000 then some (sealB s) else none
def out2 (o : Option ByteArray) : ByteArray × Bool := match o with | some t => (t, true) | none => (⟨#[]⟩, false)
def Res2 (o : Option ByteArray) (w : World) (e : Ending) (w' : World) : Prop := e = .returned (.tuple #[.string (out2 o).1, .bool (out2 o).2]) ∧ Below w.heap.size w w'
set_option maxHeartbeats 400000 in
theorem implApp (s : ByteArray) (hs : s.size ≤ 1048576) (w : World) (ht : Lib.TabIs Tryd.prog w "internal/strconv.uint64pow10" .u64 Lib.pow10Tab) :
    Calls Tryd.prog 16 #[.string s] w (Res2 (app s) w) := by
  have hm : s.size ≤ maxLen := by unfold maxLen; omega
  by_cases h1 : 4000 < s.size
  · have hr : Hid (app s = none) := Lib.hid (by unfold app; rw [if_neg (by omega)])
    have hS := Lib.hid (fun w => implSum_long s w hm h1)
    clear ht
    go_enter Tryd.func16, Tryd.ntmps16
    go_wp2_with (go_at_call 31; refine (hS.out _).mono ?_; rintro e w' ⟨rfl, rfl⟩)
    go_ret2
    exact ⟨by rw [hr.out]; rfl, Below.refl _ _⟩
  · have h1' : s.size ≤ 4000 := by omega
    have hS := Lib.hid (fun w => implSum_short s w h1')
    have hC := Lib.hid (fun w => contains_any s w)
    have hc := ck_bd s.data.toList
    obtain ⟨c0, c1⟩ := hc
    have hF := Lib.hid (impl_in (ck s.data.toList) (by omega) (by omega) w ht)
    have hl := num_len s.data.toList
    have hz := Lib.hid (sealB_size s)
    have hB : Hid (∀ c, c = ck s.data.toList → sealB s = s ++ ⟨#[35]⟩ ++ ⟨(Lib.itoa c).toArray⟩) := Lib.hid (fun c h => by rw [h]; rfl)
    clear ht h1
    cases hh : has s.data.toList 35 with
    | true =>
      have hr : Hid (app s = none) := Lib.hid (by unfold app; rw [if_neg (by rw [hh]; simp)])
      rw [hh] at hC
      have hh' := Lib.hid hh
      clear hh hF hl
      generalize hg : ck s.data.toList = c at *
      have hg' := Lib.hid hg
      clear hg
      go_enter Tryd.func16, Tryd.ntmps16
      go_wp2_with (first | (go_at_call 31; refine (hS.out _).mono ?_; rintro e w' ⟨rfl, rfl⟩) | (go_at_call 32; refine (hC.out _).mono ?_; rintro e w' ⟨rfl, rfl⟩))
      go_ret2
      exact ⟨by rw [hr.out]; rfl, Below.refl _ _⟩
    | false =>
      rw [hh] at hC
      by_cases h2 : (sealB s).size ≤ 4000
      · have hr : Hid (app s = some (sealB s)) := Lib.hid (by unfold app; rw [if_pos ⟨h1', hh, h2⟩])
        have h3 : s.size + 1 + (Lib.itoa (ck s.data.toList)).length ≤ 4000 := by rw [← hz.out]; exact h2
        clear hh h2
        generalize hg : ck s.data.toList = c at *
        have hg' := Lib.hid hg
        clear hg
        go_enter Tryd.func16, Tryd.ntmps16
        go_wp2_with (first | (go_at_call 31; refine (hS.out _).mono ?_; rintro e w' ⟨rfl, rfl⟩) | (go_at_call 32; refine (hC.out _).mono ?_; rintro e w' ⟨rfl, rfl⟩) | (go_at_call 10; refine hF.out.mono ?_; rintro e w' ⟨rfl, hb⟩))
        go_ret2
        exact ⟨by rw [hr.out, hB.out c rfl]; rfl, hb⟩
      · have hr : Hid (app s = none) := Lib.hid (by unfold app; rw [if_neg (fun hx => h2 hx.2.2)])
        have h3 : 4000 < s.size + 1 + (Lib.itoa (ck s.data.toList)).length := by rw [← hz.out]; omega
        clear hh h2
        generalize hg : ck s.data.toList = c at *
        have hg' := Lib.hid hg
        clear hg
        go_enter Tryd.func16, Tryd.ntmps16
        go_wp2_with (first | (go_at_call 31; refine (hS.out _).mono ?_; rintro e w' ⟨rfl, rfl⟩) | (go_at_call 32; refine (hC.out _).mono ?_; rintro e w' ⟨rfl, rfl⟩) | (go_at_call 10; refine hF.out.mono ?_; rintro e w' ⟨rfl, hb⟩))
        go_ret2
        exact ⟨by rw [hr.out]; rfl, hb⟩
def Res3 (o : Option ByteArray) (w : World) (e : Ending) (w' : World) : Prop := e = .returned (.tuple #[.string (out2 o).1, .bool (out2 o).2]) ∧ ∃ q, w' = w.drewN q
set_option maxHeartbeats 400000 in
theorem specApp (s : ByteArray) (hs : s.size ≤ 1048576) (w : World) :
    Calls Tryd.prog 17 #[.string s] w (Res3 (app s) w) := by
  by_cases h1 : 4000 < s.size
  · have hr : Hid (app s = none) := Lib.hid (by unfold app; rw [if_neg (by omega)])
    go_enter Tryd.func17, Tryd.ntmps17
    go_wp2_with fail
    go_ret2
    exact ⟨by rw [hr.out]; rfl, 0, rfl⟩
  · have h1' : s.size ≤ 4000 := by omega
    have hT := Lib.hid (fun w => stands_any s hs 35 w)
    have hS := Lib.hid (fun w => seal_any s hs w)
    clear h1
    cases hh : has s.data.toList 35 with
    | true =>
      have hr : Hid (app s = none) := Lib.hid (by unfold app; rw [if_neg (by rw [hh]; simp)])
      rw [hh] at hT
      have hh' := Lib.hid hh
      clear hh
      go_enter Tryd.func17, Tryd.ntmps17
      go_wp2_with (go_at_call 33; refine (hT.out _).mono ?_; rintro e w' ⟨rfl, rfl⟩)
      go_ret2
      exact ⟨by rw [hr.out]; rfl, 0, rfl⟩
    | false =>
      rw [hh] at hT
      by_cases h2 : (sealB s).size ≤ 4000
      · have hr : Hid (app s = some (sealB s)) := Lib.hid (by unfold app; rw [if_pos ⟨h1', hh, h2⟩])
        clear hh
        go_enter Tryd.func17, Tryd.ntmps17
        go_wp2_with (first | (go_at_call 33; refine (hT.out _).mono ?_; rintro e w' ⟨rfl, rfl⟩) | (go_at_call 34; refine (hS.out _).mono ?_; rintro e w' ⟨rfl, q, rfl⟩))
        go_ret2
        exact ⟨by rw [hr.out]; rfl, _, rfl⟩
      · have hr : Hid (app s = none) := Lib.hid (by unfold app; rw [if_neg (fun hx => h2 hx.2.2)])
        have h2' : 4000 < (sealB s).size := by omega
        clear hh h2
        go_enter Tryd.func17, Tryd.ntmps17
        go_wp2_with (first | (go_at_call 33; refine (hT.out _).mono ?_; rintro e w' ⟨rfl, rfl⟩) | (go_at_call 34; refine (hS.out _).mono ?_; rintro e w' ⟨rfl, q, rfl⟩))
        go_ret2
        exact ⟨by rw [hr.out]; rfl, _, rfl⟩
end Go.Proofs.YtlcgfohljkcngaaDoor.Seal
