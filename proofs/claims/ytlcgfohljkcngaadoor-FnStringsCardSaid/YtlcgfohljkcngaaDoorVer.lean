/- What VerifyChecksum of the program and of the model return: both what stands before the first sign, and true, if the string has at most 4000 bytes and is the sealed form of this, else the empty text and false; for every string of at most 1048576 bytes, the program's where the table of powers of ten holds these. -/
import Derived.Test.YtlcgfohljkcngaaDoorSeal
import Derived.Test.YtlcgfohljkcngaaDoorSplit
import Derived.Deep.QuietTactic
import Derived.BigQuiet
namespace Go.Proofs.YtlcgfohljkcngaaDoor.Ver
open Go.ChangeShapes Go.WideShapes Go.ChangeAt Go.RowKit
open Laid Num Fmt SumPlain CkSum Seal SplitPlain SplitWalk
def first (s : ByteArray) : ByteArray := (parts s 35).headD ⟨#[]⟩
theorem cut_none (s : ByteArray) (b : UInt8) (m : Nat) (h : ∀ j, j < m → s.data.toList[j]? ≠ some b) : cutAt s b m = (0, []) := by
  induction m with
  | zero => rfl
  | succ m ih =>
    have := h m (by omega)
    rw [cutAt, if_neg (by simpa using this)]
    exact ih (fun j hj => h j (by omega))
theorem cut_head (s : ByteArray) (b : UInt8) (i : Nat) (hi : s.data.toList[i]? = some b) (h : ∀ j, j < i → s.data.toList[j]? ≠ some b) (d : Nat) : (cutAt s b (i + 1 + d)).2.head? = some (s.extract 0 i) := by
  induction d with
  | zero =>
    show (cutAt s b (i + 1)).2.head? = _
    rw [cutAt, if_pos (by rw [hi]; simp), cut_none s b i h]
    rfl
  | succ d ih =>
    show (cutAt s b (i + 1 + d + 1)).2.head? = _
    rw [cutAt]
    split
    · simp only [List.head?_append, ih]; rfl
    · exact ih
theorem extract_all (s : ByteArray) : s.extract 0 s.size = s := by
  apply ByteArray.ext
  simp
theorem first_none (s : ByteArray) (h : Lib.indexByte s.data.toList 35 = -1) : first s = s := by
  unfold first parts
  rw [cut_none s 35 s.size (fun j _ => Lib.indexByte_none h j)]
  exact extract_all s
theorem first_some (s : ByteArray) (i : Nat) (h : Lib.indexByte s.data.toList 35 = i) : first s = s.extract 0 i ∧ i < s.size := by
  obtain ⟨h1, h2⟩ := Lib.indexByte_some h
  have hi : i < s.size := by
    have := List.getElem?_eq_some_iff.1 h1
    obtain ⟨h3, _⟩ := this
    simpa using h3
  refine ⟨?_, hi⟩
  unfold first parts
  have := cut_head s 35 i h1 h2 (s.size - (i + 1))
  rw [show i + 1 + (s.size - (i + 1)) = s.size from by omega] at this
  rw [List.headD_eq_head?_getD, List.head?_append, this]
  rfl
theorem first_no (s : ByteArray) : has (first s).data.toList 35 = false := by
  have hg := Lib.indexByte_ge s.data.toList 35
  rw [has, List.any_eq_false]
  intro x hx
  obtain ⟨j, hj⟩ := List.mem_iff_getElem?.1 hx
  by_cases h1 : Lib.indexByte s.data.toList 35 = -1
  · rw [first_none s h1] at hj
    have := Lib.indexByte_none h1 j
    rw [hj] at this
    simpa using this
  · obtain ⟨i, hi⟩ := Int.eq_ofNat_of_zero_le (show 0 ≤ Lib.indexByte s.data.toList 35 by omega)
    obtain ⟨e, _⟩ := first_some s i hi
    obtain ⟨_, h2⟩ := Lib.indexByte_some hi
    rw [e] at hj
    have hd : (s.extract 0 i).data.toList = s.data.toList.take i := by simp [ByteArray.data_extract]
    rw [hd, List.getElem?_take] at hj
    split at hj
    · rename_i hji
      have := h2 j hji
      rw [hj] at this
      simpa using this
    · cases hj
theorem first_size (s : ByteArray) : (first s).size ≤ s.size := by
  have hg := Lib.indexByte_ge s.data.toList 35
  by_cases h1 : Lib.indexByte s.data.toList 35 = -1
  · rw [first_none s h1]; omega
  · obtain ⟨i, hi⟩ := Int.eq_ofNat_of_zero_le (show 0 ≤ Lib.indexByte s.data.toList 35 by omega)
    obtain ⟨e, hl⟩ := first_some s i hi
    rw [e, ByteArray.size_extract]; omega
theorem parts_ne (s : ByteArray) : ∃ r, parts s 35 = first s :: r := by
  cases h : parts s 35 with
  | nil => simp [parts] at h
  | cons a r => exact ⟨r, by simp [first, h]⟩
/-- What is cut off in front. -/
theorem split_first (s : ByteArray) (hs : s.size ≤ 1048576) (w : World) :
    Calls Tryd.prog 36 #[.string s, .int .u8 35] w fun e w' => ∃ (g n cap : Nat), e = .returned (.slice (some ⟨g, 0, none⟩) (n + 1) cap) ∧ w'.cell? ⟨g, 0, none⟩ = some (.string (first s)) ∧ Below w.heap.size w w' := by
  refine (split_any s hs 35 w).mono fun e w' ⟨v, he, hown, hb⟩ => ?_
  obtain ⟨r, hr⟩ := parts_ne s
  rw [hr] at hown
  rcases hown.2 with ⟨_, hn⟩ | ⟨g, cap, cur, rfl, _⟩
  · simp at hn
  · have hc := hown.cells (g := g) rfl 0 (.string (first s)) rfl
    exact ⟨g, r.length, cap, he, by simpa [Addr.add] using hc, hb⟩
set_option maxHeartbeats 400000 in
theorem cut_any (s : ByteArray) (hs : s.size ≤ 1048576) (w : World) :
    Calls Tryd.prog 43 #[.string s, .string ⟨#[35]⟩] w fun e w' => (∃ (t : ByteArray) (b : Bool), e = .returned (.tuple #[.string (first s), .string t, .bool b])) ∧ ∃ q, w' = w.drewN q := by
  have hg := Lib.indexByte_ge s.data.toList 35
  have hI := Lib.hid (fun w => Tryd.stringslite_Index_one s 35 w)
  by_cases h1 : Lib.indexByte s.data.toList 35 = -1
  · have hf := Lib.hid (first_none s h1)
    rw [h1] at hI
    clear h1 hg
    go_enter Tryd.func43, Tryd.ntmps43
    go_wp2_with (go_at_call 50; refine (hI.out _).mono ?_; rintro e w' ⟨rfl, rfl⟩)
    go_ret3
    exact ⟨⟨_, _, by rw [hf.out]; rfl⟩, 0, rfl⟩
  · obtain ⟨i, hi⟩ := Int.eq_ofNat_of_zero_le (show 0 ≤ Lib.indexByte s.data.toList 35 by omega)
    obtain ⟨hf0, hl⟩ := first_some s i hi
    have hf := Lib.hid hf0
    rw [hi] at hI
    have hw : IntKind.i64.wrap ((i : Int) + 1) = (i : Int) + 1 := IntWalk.i64_in _ (by omega)
    clear hi hg h1 hf0
    go_enter Tryd.func43, Tryd.ntmps43
    go_wp2_with (go_at_call 50; refine (hI.out _).mono ?_; rintro e w' ⟨rfl, rfl⟩)
    go_quiet (fail)
    go_wp2
    go_ret3
    exact ⟨⟨_, _, by rw [hf.out]; rfl⟩, _, rfl⟩
theorem strCut_any (s : ByteArray) (hs : s.size ≤ 1048576) (w : World) :
    Calls Tryd.prog 35 #[.string s, .string ⟨#[35]⟩] w fun e w' => (∃ (t : ByteArray) (b : Bool), e = .returned (.tuple #[.string (first s), .string t, .bool b])) ∧ ∃ q, w' = w.drewN q := by
  have hI := Lib.hid (fun w => cut_any s hs w)
  go_enter Tryd.func35, Tryd.ntmps35
  go_wp2_with (go_at_call 43; refine (hI.out _).mono ?_; rintro e w' ⟨⟨t, b, rfl⟩, q, rfl⟩)
  go_ret3
  exact ⟨⟨_, _, rfl⟩, _, rfl⟩
/-- What both come to. -/
def ver (s : ByteArray) : Option ByteArray := if s.size ≤ 4000 ∧ sealB (first s) = s then some (first s) else none
theorem ver_app (s : ByteArray) : ver s = if app (first s) = some s then some (first s) else none := by
  have hf := first_size s
  have hn := first_no s
  by_cases h : s.size ≤ 4000 ∧ sealB (first s) = s
  · have ha : app (first s) = some s := by
      unfold app
      rw [if_pos ⟨by omega, hn, by rw [h.2]; exact h.1⟩, h.2]
    rw [ver, if_pos h, if_pos ha]
  · rw [ver, if_neg h, if_neg]
    intro hx
    unfold app at hx
    split at hx
    · rename_i hy
      have e := Option.some.inj hx
      exact h ⟨by rw [← e]; exact hy.2.2, e⟩
    · cases hx
theorem app_some (t u : ByteArray) (h : app t = some u) : u = sealB t := by
  unfold app at h
  split at h
  · exact (Option.some.inj h).symm
  · cases h
theorem same_list (a b : ByteArray) : (!a.toList == b.toList) = decide (a ≠ b) := by
  rw [ByteArray.toList_eq, ByteArray.toList_eq]
  by_cases h : a = b
  · rw [h]; simp
  · have : a.data.toList ≠ b.data.toList := fun e => h (ByteArray.ext (Array.toList_inj.1 e))
    rw [beq_eq_false_iff_ne.2 this]
    simp [h]
set_option maxHeartbeats 400000 in
theorem implVer (s : ByteArray) (hs : s.size ≤ 1048576) (w : World) (ht : Lib.TabIs Tryd.prog w "internal/strconv.uint64pow10" .u64 Lib.pow10Tab) :
    Calls Tryd.prog 18 #[.string s] w (Res2 (ver s) w) := by
  have hC := Lib.hid (fun w => strCut_any s hs w)
  have hf := first_size s
  have hA := Lib.hid (fun q => implApp (first s) (by omega) (w.drewN q) (tab_below ht (below_drewN w q)))
  have hv := Lib.hid (ver_app s)
  clear ht hf
  generalize first s = t at *
  cases ha : app t with
  | none =>
    have hr : Hid (ver s = none) := Lib.hid (by rw [hv.out, ha]; rfl)
    rw [ha] at hA
    have ha' := Lib.hid ha
    clear ha
    go_enter Tryd.func18, Tryd.ntmps18
    go_wp2_with (first | (go_at_call 35; refine (hC.out _).mono ?_; rintro e w' ⟨⟨t2, b2, rfl⟩, q, rfl⟩) | (go_at_call 16; refine (hA.out _).mono ?_; rintro e w2 ⟨rfl, hb⟩; dsimp only [out2]))
    go_ret2
    exact ⟨by rw [hr.out]; rfl, (below_drewN _ _).trans hb⟩
  | some u =>
    rw [ha] at hA
    have hsame := same_list u s
    by_cases hu : u = s
    · have hr : Hid (ver s = some t) := Lib.hid (by rw [hv.out, ha, hu, if_pos rfl])
      have hB : (!u.toList == s.toList) = false := by rw [hsame]; simpa using hu
      have ha' := Lib.hid ha
      have hu' := Lib.hid hu
      clear ha hsame hu
      go_enter Tryd.func18, Tryd.ntmps18
      go_wp2_with (first | (go_at_call 35; refine (hC.out _).mono ?_; rintro e w' ⟨⟨t2, b2, rfl⟩, q, rfl⟩) | (go_at_call 16; refine (hA.out _).mono ?_; rintro e w2 ⟨rfl, hb⟩; dsimp only [out2]))
      go_ret2
      exact ⟨by rw [hr.out]; rfl, (below_drewN _ _).trans hb⟩
    · have hr : Hid (ver s = none) := Lib.hid (by rw [hv.out, ha, if_neg (fun e => hu (Option.some.inj e))])
      have hB : (!u.toList == s.toList) = true := by rw [hsame]; simpa using hu
      have ha' := Lib.hid ha
      have hu' := Lib.hid hu
      clear ha hsame hu
      go_enter Tryd.func18, Tryd.ntmps18
      go_wp2_with (first | (go_at_call 35; refine (hC.out _).mono ?_; rintro e w' ⟨⟨t2, b2, rfl⟩, q, rfl⟩) | (go_at_call 16; refine (hA.out _).mono ?_; rintro e w2 ⟨rfl, hb⟩; dsimp only [out2]))
      go_ret2
      exact ⟨by rw [hr.out]; rfl, (below_drewN _ _).trans hb⟩
set_option maxHeartbeats 400000 in
theorem specVer (s : ByteArray) (hs : s.size ≤ 1048576) (w : World) :
    Calls Tryd.prog 20 #[.string s] w (Res2 (ver s) w) := by
  by_cases h1 : 4000 < s.size
  · have hr : Hid (ver s = none) := Lib.hid (by unfold ver; rw [if_neg (by omega)])
    go_enter Tryd.func20, Tryd.ntmps20
    go_wp2
    go_ret2
    exact ⟨by rw [hr.out]; rfl, Below.refl _ _⟩
  · have h1' : s.size ≤ 4000 := by omega
    have hC := Lib.hid (fun w => split_first s hs w)
    have hf := first_size s
    have hS := Lib.hid (fun w => seal_any (first s) (by omega) w)
    have hsame := same_list (sealB (first s)) s
    have hv : Hid (ver s = if sealB (first s) = s then some (first s) else none) := Lib.hid (by
      unfold ver
      by_cases h : sealB (first s) = s
      · rw [if_pos ⟨h1', h⟩, if_pos h]
      · rw [if_neg (fun hx => h hx.2), if_neg h])
    clear h1
    generalize first s = t at *
    by_cases hu : sealB t = s
    · have hr : Hid (ver s = some t) := Lib.hid (by rw [hv.out, if_pos hu])
      have hB : (!(sealB t).toList == s.toList) = false := by rw [hsame]; simpa using hu
      have hu' := Lib.hid hu
      clear hsame hu hf
      go_enter Tryd.func20, Tryd.ntmps20
      go_wp2_with (first | (go_at_call 36; refine (hC.out _).mono ?_; rintro e w2 ⟨g, n, cap, rfl, hcell, hb⟩) | (go_at_call 34; refine (hS.out _).mono ?_; rintro e w3 ⟨rfl, q, rfl⟩))
      go_ret2
      exact ⟨by rw [hr.out]; rfl, hb.trans ((below_drewN _ _).mono hb.size)⟩
    · have hr : Hid (ver s = none) := Lib.hid (by rw [hv.out, if_neg hu])
      have hB : (!(sealB t).toList == s.toList) = true := by rw [hsame]; simpa using hu
      have hu' := Lib.hid hu
      clear hsame hu hf
      go_enter Tryd.func20, Tryd.ntmps20
      go_wp2_with (first | (go_at_call 36; refine (hC.out _).mono ?_; rintro e w2 ⟨g, n, cap, rfl, hcell, hb⟩) | (go_at_call 34; refine (hS.out _).mono ?_; rintro e w3 ⟨rfl, q, rfl⟩))
      go_ret2
      exact ⟨by rw [hr.out]; rfl, hb.trans ((below_drewN _ _).mono hb.size)⟩
end Go.Proofs.YtlcgfohljkcngaaDoor.Ver
