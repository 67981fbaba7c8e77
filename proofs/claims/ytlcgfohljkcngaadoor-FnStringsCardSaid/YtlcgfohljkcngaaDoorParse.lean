/- What ParseInt of the program returns: the model's reading of the string, for every string of at most 1048576 bytes, where the listed tables and errors are as the program's text lays them. -/
import Derived.Test.YtlcgfohljkcngaaDoorShelfB
import Derived.Test.YtlcgfohljkcngaaDoorFmt
import Derived.Test.YtlcgfohljkcngaaDoorReadPlain
import Derived.WalkSpells
namespace Go.Proofs.YtlcgfohljkcngaaDoor.Parse
open Go.ChangeShapes Go.WideShapes Go.ChangeAt Go.RowKit
open Laid Num Fmt ReadPlain
theorem gSyn : Tryd.prog.globalNamed "strconv.ErrSyntax" = some 0 := by kernel_rfl
theorem gRan : Tryd.prog.globalNamed "strconv.ErrRange" = some 1 := by kernel_rfl
theorem tSyn : (Tryd.prog.globals[0]?).map (·.type) = some 46 := by kernel_rfl
theorem tRan : (Tryd.prog.globals[1]?).map (·.type) = some 46 := by kernel_rfl
theorem row86 (u : TypeId) (h : Tryd.prog.typeName? 3 u = some "*errors.errorString") : u = 86 :=
  typeName_ptr_named (nm := "errors.errorString") (by kernel_rfl) (by kernel_rfl) (by decide) u h
/-- A variable that holds an error that is not nil. -/
def HasErr (w : World) (name : String) : Prop := ∃ tp p, w.var? Tryd.prog name = some #[.iface tp p]
theorem syn_of5 {W : World} (h : laidMetH Tryd.prog laid5 W) : HasErr W "strconv.ErrSyntax" := by
  have h1 := h.filter (fun x => x.1 == "strconv.ErrSyntax")
  rw [MakeChecks.laidMetH_plain _ _ _ (by kernel_rfl)] at h1
  obtain ⟨a, s, hv, _⟩ := laid_sentinel (r := []) h1 gSyn tSyn Tryd.underlying46 row86 Tryd.underlying86 Tryd.underlying88 rfl rfl Tryd.underlying9 (by kernel_rfl) (by kernel_rfl)
  exact ⟨_, _, hv⟩
theorem ran_of5 {W : World} (h : laidMetH Tryd.prog laid5 W) : HasErr W "strconv.ErrRange" := by
  have h1 := h.filter (fun x => x.1 == "strconv.ErrRange")
  rw [MakeChecks.laidMetH_plain _ _ _ (by kernel_rfl)] at h1
  obtain ⟨a, s, hv, _⟩ := laid_sentinel (r := []) h1 gRan tRan Tryd.underlying46 row86 Tryd.underlying86 Tryd.underlying88 rfl rfl Tryd.underlying9 (by kernel_rfl) (by kernel_rfl)
  exact ⟨_, _, hv⟩
/-- What the library's reading leaves: where it ends well, the number and nil; else an error that is not nil. -/
theorem atoi_ok (s : ByteArray) (hs : s.size ≤ 1048576) (v : Int) (h : Lib.atoiAll s.data.toList = .ok v) (w : World) :
    Calls Tryd.prog 28 #[.string s] w fun e w' => e = .returned (.tuple #[.int .i64 v, .nilIface]) ∧ Below w.heap.size w w' :=
  (Tryd.strconv_Atoi_ok s (by omega) v h w).mono fun e w' ⟨he, hw⟩ => ⟨he, by
    rcases hw with rfl | ⟨t, rfl⟩
    · exact Below.refl _ _
    · exact Lib.bytesWorld_below _ _ _⟩
theorem atoi_bad (s : ByteArray) (hs : s.size ≤ 1048576) (h : ∀ v, Lib.atoiAll s.data.toList ≠ .ok v) (w : World) (h1 : HasErr w "strconv.ErrSyntax") (h2 : HasErr w "strconv.ErrRange") :
    Calls Tryd.prog 28 #[.string s] w fun e w' => ∃ (n : Int) (N : Nat), e = .returned (.tuple #[.int .i64 n, .iface 65 (.pointer (some ⟨N, 0, none⟩))]) ∧ Below w.heap.size w w' := by
  obtain ⟨t1, p1, v1⟩ := h1
  obtain ⟨t2, p2, v2⟩ := h2
  rcases hh : Lib.atoiAll s.data.toList with v | _ | _
  · exact absurd hh (h v)
  · exact (Any.strconv_Atoi_syntax_var Tryd.laysC172 s (by omega) hh t1 p1 w v1).mono fun e w' ⟨N, he, _, _, hb⟩ => ⟨_, N, he, hb⟩
  · exact (Any.strconv_Atoi_range_var Tryd.laysC172 s (by omega) hh t2 p2 w v2).mono fun e w' ⟨N, he, _, _, hb⟩ => ⟨_, N, he, hb⟩
def Res (o : Option Int) (w : World) (e : Ending) (w' : World) : Prop := e = .returned (.tuple #[.int .i64 (out o).1, .bool (out o).2]) ∧ Below w.heap.size w w'
set_option maxHeartbeats 400000 in
theorem parse_any (s : ByteArray) (hs : s.size ≤ 1048576) (w : World) (ht : Lib.TabIs Tryd.prog w "internal/strconv.uint64pow10" .u64 Lib.pow10Tab) (h1 : HasErr w "strconv.ErrSyntax") (h2 : HasErr w "strconv.ErrRange") :
    Calls Tryd.prog 13 #[.string s] w (Res (rd s.data.toList) w) := by
  by_cases hok : ∃ v, Lib.atoiAll s.data.toList = .ok v
  · obtain ⟨v, hv⟩ := hok
    have hA := Lib.hid (fun w => atoi_ok s hs v hv w)
    have hr : Hid (rd s.data.toList = if -999999 ≤ v ∧ v ≤ 999999 ∧ Lib.itoa v = s.data.toList then some v else none) := Lib.hid (by rw [rd_of_atoi, hv])
    clear hv h1 h2
    by_cases hb : v < -999999 ∨ 999999 < v
    · have hF := Lib.hid (fun w => impl_out v hb w)
      have hb' := Lib.hid hb
      clear ht hb
      go_enter Tryd.func13, Tryd.ntmps13
      go_wp2_with (first | (go_at_call 28; refine (hA.out _).mono ?_; rintro e w1 ⟨rfl, b1⟩) | (go_at_call 10; refine (hF.out _).mono ?_; rintro e w' ⟨rfl, rfl⟩))
      go_ret2
      exact ⟨by rw [hr.out, if_neg (by have := hb'.out; omega)]; rfl, b1⟩
    · have v0 : -999999 ≤ v := by omega
      have v1 : v ≤ 999999 := by omega
      have hF := Lib.hid (fun w' (hb : Below w.heap.size w w') => impl_in v v0 v1 w' (tab_below ht hb))
      have hsl : s.toList = s.data.toList := ByteArray.toList_eq s
      clear ht hb
      by_cases he : Lib.itoa v = s.data.toList
      · have hB : (!Lib.itoa v == s.toList) = false := by rw [hsl, he]; simp
        have hE := Lib.hid he
        clear he hsl
        go_enter Tryd.func13, Tryd.ntmps13
        go_wp2_with (first | (go_at_call 28; refine (hA.out _).mono ?_; rintro e w1 ⟨rfl, b1⟩) | (go_at_call 10; refine (hF.out _ b1).mono ?_; rintro e w2 ⟨rfl, b2⟩))
        go_ret2
        exact ⟨by rw [hr.out, if_pos ⟨v0, v1, hE.out⟩]; rfl, b1.trans (b2.mono b1.size)⟩
      · have hB : (!Lib.itoa v == s.toList) = true := by rw [hsl]; simp [he]
        have hE := Lib.hid he
        clear he hsl
        go_enter Tryd.func13, Tryd.ntmps13
        go_wp2_with (first | (go_at_call 28; refine (hA.out _).mono ?_; rintro e w1 ⟨rfl, b1⟩) | (go_at_call 10; refine (hF.out _ b1).mono ?_; rintro e w2 ⟨rfl, b2⟩))
        go_ret2
        exact ⟨by rw [hr.out, if_neg (fun hh => hE.out hh.2.2)]; rfl, b1.trans (b2.mono b1.size)⟩
  · have hA := Lib.hid (atoi_bad s hs (fun v hv => hok ⟨v, hv⟩) w h1 h2)
    have hr : Hid (rd s.data.toList = none) := Lib.hid (by
      rw [rd_of_atoi]
      split
      · rename_i v hv; exact absurd ⟨v, hv⟩ hok
      · rfl)
    clear hok h1 h2 ht
    go_enter Tryd.func13, Tryd.ntmps13
    go_wp2_with (go_at_call 28; refine hA.out.mono ?_; rintro e w1 ⟨n, N, rfl, b1⟩)
    go_ret2
    exact ⟨by rw [hr.out]; rfl, b1⟩
end Go.Proofs.YtlcgfohljkcngaaDoor.Parse
