/- What the model's cutting of a string returns: a slice of its own with the parts, for every string of at most 1048576 bytes; it writes nothing that was there. -/
import Derived.Test.YtlcgfohljkcngaaDoorRows
import Derived.Test.YtlcgfohljkcngaaDoorSplitPlain
import Derived.WalkKit
import Derived.ProofKit
import Derived.Lib.Hide
import Derived.WalkSpells
namespace Go.Proofs.YtlcgfohljkcngaaDoor.SplitWalk
open Go.ChangeShapes Go.WideShapes Go.ChangeAt Go.RowKit
open SplitPlain
theorem info9 : (Tryd.prog.info? 9).map (fun i => (i.zero, i.size, i.bytes)) = some (some (.string ByteArray.empty), 1, 16) := by kernel_rfl
/-- What one append does to the relation. -/
theorem rel_cut {B : Nat} {w wr w1 : World} {v v' : Value} {xs : List ByteArray} {x : ByteArray} (hbel : Below B w wr) (hB : B ≤ wr.heap.size) (hlt : ∀ k, v.ownBlock = some k → B ≤ k)
    (hown : w1.ownsRow B 9 1 v' (xs.length + 1) (xs.map Value.string ++ [.string x])) (hg : (wr.alloc (.cells #[.string x] 9)).grownBy w1 v.ownBlock) :
    w1.ownsRow B 9 1 v' (xs ++ [x]).length ((xs ++ [x]).map Value.string) ∧ Below B w w1 := by
  refine ⟨by simpa using hown, ?_⟩
  exact (hbel.alloc hB _).grown hg (by simp; omega) (fun k e => hlt k e)
set_option maxHeartbeats 1000000 in
theorem split_any (s : ByteArray) (hs : s.size ≤ 1048576) (b : UInt8) (w : World) :
    Calls Tryd.prog 36 #[.string s, .int .u8 b.toNat] w fun e w' => ∃ v, e = .returned v ∧ w'.ownsRow w.heap.size 9 1 v (parts s b).length ((parts s b).map Value.string) ∧ Below w.heap.size w w' := by
  obtain ⟨i0, hi, hz0, hz1, hz2⟩ := info_parts info9
  go_enter Tryd.func36, Tryd.ntmps36
  go_wp2
  go_loopw [5, 6, 7] (fun v f i wr => ∃ k : Nat, k ≤ s.size ∧ i = .int .i64 k ∧ f = .int .i64 (cutAt s b k).1 ∧ wr.ownsRow w.heap.size 9 1 v (cutAt s b k).2.length ((cutAt s b k).2.map Value.string) ∧ Below w.heap.size w wr)
    (fun _ _ i _ => s.size - (intOf i).toNat)
  case atStart => exact ⟨0, Nat.zero_le _, rfl, rfl, World.ownsRow_made w #[] 0 (Nat.le_refl _) (Nat.zero_le _) rfl, (Below.refl _ _).alloc (Nat.le_refl _) _⟩
  case round =>
    obtain ⟨k, hk, rfl, rfl, hown, hbel⟩ := hrel
    have hsz := hbel.size
    have hfl := from_le s b k
    have hcl := count_le s b k
    by_cases hlt : k < s.size
    · by_cases hb : s[k] = b
      · have hcut := Lib.hid (cut_yes s b k hlt hb)
        have ht := byte_yes _ _ hb
        clear hb
        have hol := Lib.hid hown.lt
        generalize hc : cutAt s b k = c at *
        have hc' := Lib.hid hc
        clear hc
        obtain ⟨f, xs⟩ := c
        dsimp only at hcut hown hfl hcl
        go_wp2_with (at_builtin; refine wpList_append_own _ rfl _ _ 44 rfl w.heap.size 9 i0 (.string ByteArray.empty) 1 16 Tryd.underlying44 hi hz0 hz1 hz2 rfl (by decide) _ _ _ rfl (hown.alloc _) ⟨wr.heap.size, 0, none⟩ 1 1 [.string (s.extract f k)] rfl rfl ?c1 ?c2 ?c3 ?c4 ?c5 ?_)
        case c1 =>
          intro j u hj
          match j, hj with
          | 0, hj => simp at hj; subst hj; simp [Addr.add]
        case c2 => intro u hu; simp at hu; subst hu; rfl
        case c3 => unfold maxLen; omega
        case c4 => omega
        case c5 => simp; omega
        · intro v' w1 hown' hgrow _
          have R := rel_cut hbel hsz (fun k e => (hol.out k e).1) hown' hgrow
          clear hown' hgrow hown hbel hol
          go_wp2
          go_roundw
          case rel => exact ⟨k + 1, by omega, by go_num, by rw [hcut.out]; go_num, by rw [hcut.out]; exact R.1, R.2⟩
          case measure => simp [intOf]; omega
      · have hcut := Lib.hid (cut_no s b k hlt hb)
        have ht := byte_no _ _ hb
        clear hb
        go_wp2
        go_roundw
        case rel => exact ⟨k + 1, by omega, by go_num, by rw [hcut.out], by rw [hcut.out]; exact hown, hbel⟩
        case measure => simp [intOf]; omega
    · obtain rfl : k = s.size := by omega
      have hpa : Hid (parts s b = (cutAt s b s.size).2 ++ [s.extract (cutAt s b s.size).1 s.size]) := Lib.hid rfl
      have hol := Lib.hid hown.lt
      generalize hc : cutAt s b s.size = c at *
      have hc' := Lib.hid hc
      clear hc
      obtain ⟨f, xs⟩ := c
      dsimp only at hpa hown hfl hcl
      go_wp2_with (at_builtin; refine wpList_append_own _ rfl _ _ 44 rfl w.heap.size 9 i0 (.string ByteArray.empty) 1 16 Tryd.underlying44 hi hz0 hz1 hz2 rfl (by decide) _ _ _ rfl (hown.alloc _) ⟨wr.heap.size, 0, none⟩ 1 1 [.string (s.extract f s.size)] rfl rfl ?d1 ?d2 ?d3 ?d4 ?d5 ?_)
      case d1 =>
        intro j u hj
        match j, hj with
        | 0, hj => simp at hj; subst hj; simp [Addr.add]
      case d2 => intro u hu; simp at hu; subst hu; rfl
      case d3 => unfold maxLen; omega
      case d4 => omega
      case d5 => simp; omega
      · intro v' w1 hown' hgrow _
        have R := rel_cut hbel hsz (fun k e => (hol.out k e).1) hown' hgrow
        clear hown' hgrow hown hbel hol
        go_wp2
        go_ret
        exact ⟨_, rfl, by rw [hpa.out]; exact R.1, R.2⟩
end Go.Proofs.YtlcgfohljkcngaaDoor.SplitWalk
