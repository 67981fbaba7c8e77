/- What the law on strings needs of the calls: each of the program's functions and the model's at what was drawn, in the worlds of the walk; the program's where the listed table and errors stand. -/
import Derived.Test.YtlcgfohljkcngaaDoorBack
import Derived.Test.YtlcgfohljkcngaaDoorDraw
import Derived.Test.YtlcgfohljkcngaaDoorParse
import Derived.Test.YtlcgfohljkcngaaDoorRead
import Derived.Laws.IdiomStrings
namespace Go.Proofs.YtlcgfohljkcngaaDoor.More
open Go.ChangeShapes Go.WideShapes Go.ChangeAt Go.RowKit
open Laid Num Fmt Parse NumRead ReadPlain Seal Ver Back Draw Cur
theorem code_below {w w' : World} {ca : Option Addr} {n : Nat} (h : CodeIn w w.heap.size ca n) (hb : Below w.heap.size w w') : CodeIn w' w'.heap.size ca n := by
  refine ⟨h.1, ?_⟩
  rcases h.2 with h0 | ⟨b, off, e, hbb, hc⟩
  · exact .inl h0
  · refine .inr ⟨b, off, e, Nat.lt_of_lt_of_le hbb hb.size, fun j hj => ?_⟩
    obtain ⟨z, z0, z1, hz⟩ := hc j hj
    exact ⟨z, z0, z1, (hb.cell (p := ⟨b, off + j, none⟩) hbb).trans hz⟩
theorem below_redrew {w w' : World} {B q : Nat} (h : Below B w w') : Below B w (w'.drewN q) := ⟨h.os, h.tape, h.output, h.size, h.block⟩
/-- What the numeral of a number is. -/
def fm (n : Int) : Option ByteArray := if -999999 ≤ n ∧ n ≤ 999999 then some ⟨(Lib.itoa n).toArray⟩ else none
theorem fm_read {n : Int} {s : ByteArray} (h : fm n = some s) : rd s.data.toList = some n ∧ s.size ≤ 20 := by
  unfold fm at h
  split at h
  · rename_i hc
    injection h with h
    subst h
    have hl := itoa_len n (by omega) (by omega)
    refine ⟨?_, ?_⟩
    · show rd (Lib.itoa n).toArray.toList = _
      exact rd_itoa n hc.1 hc.2
    · show (Lib.itoa n).toArray.size ≤ 20
      simp; omega
  · cases h
theorem fmtI (n : Int) (w : World) (ht : Lib.TabIs Tryd.prog w "internal/strconv.uint64pow10" .u64 Lib.pow10Tab) :
    Calls Tryd.prog 10 #[.int .i64 n] w (Res2 (fm n) w) := by
  by_cases h : -999999 ≤ n ∧ n ≤ 999999
  · unfold fm; rw [if_pos h]; exact impl_in n h.1 h.2 w ht
  · unfold fm; rw [if_neg h]
    exact (impl_out n (by omega) w).mono fun e w' ⟨he, hw⟩ => ⟨he, hw ▸ Below.refl _ _⟩
theorem fmtS (n : Int) (w : World) : Calls Tryd.prog 11 #[.int .i64 n] w (Res3 (fm n) w) := by
  by_cases h : -999999 ≤ n ∧ n ≤ 999999
  · unfold fm; rw [if_pos h]; exact spec_in n h.1 h.2 w
  · unfold fm; rw [if_neg h]
    exact (spec_out n (by omega) w).mono fun e w' ⟨he, hw⟩ => ⟨he, 0, hw.symm⟩
/-- What the calls need to stand: the table and the errors, in every later world. -/
theorem errs_below {w w' : World} {n : String} {g : Nat} (hg : Tryd.prog.globalNamed n = some g) (h : HasErr w n) (hb : Below w.heap.size w w') : HasErr w' n := by
  obtain ⟨t, p, hv⟩ := h
  refine ⟨t, p, ?_⟩
  unfold World.var? at hv ⊢
  rw [hg] at hv ⊢
  simp only [Option.bind_some] at hv ⊢
  have hlt : g < w.heap.size := by
    rcases Nat.lt_or_ge g w.heap.size with h1 | h1
    · exact h1
    · rw [Array.getElem?_eq_none h1] at hv
      simp at hv
  rw [hb.block g hlt]
  exact hv
structure Std (w : World) : Prop where
  tab : Lib.TabIs Tryd.prog w "internal/strconv.uint64pow10" .u64 Lib.pow10Tab
  syn : HasErr w "strconv.ErrSyntax"
  ran : HasErr w "strconv.ErrRange"
theorem Std.below {w w' : World} (h : Std w) (hb : Below w.heap.size w w') : Std w' := ⟨tab_below h.tab hb, errs_below gSyn h.syn hb, errs_below gRan h.ran hb⟩
theorem Std.of5 {w : World} (h : laidMetH Tryd.prog laid5 w) : Std w := ⟨tab_of5 h, syn_of5 h, ran_of5 h⟩
/-- One byte of the choices, told ahead. -/
theorem at_told (w : World) (ca : Option Addr) (n cc bc : Nat) (i : Int) (hi : 0 ≤ i) (hi2 : i ≤ 100) (h : CodeIn w bc ca n) :
    ∃ z : Nat, z ≤ 255 ∧ Calls Tryd.prog 19 #[.slice ca n cc, .int .i64 i] w fun e w' => e = .returned (.int .i64 z) ∧ w' = w := by
  have hn := h.1
  by_cases hk : i < (n : Int)
  · rcases h.2 with h0 | ⟨b, off, rfl, hb, hc⟩
    · omega
    · obtain ⟨j, rfl⟩ := Int.eq_ofNat_of_zero_le hi
      obtain ⟨z, z0, z1, hz⟩ := hc j (by omega)
      obtain ⟨d, rfl⟩ := Int.eq_ofNat_of_zero_le z0
      refine ⟨d, by omega, ?_⟩
      clear h hc
      go_enter Tryd.func19, Tryd.ntmps19
      go_wp2
      go_ret
      exact ⟨rfl, rfl⟩
  · obtain ⟨j, rfl⟩ := Int.eq_ofNat_of_zero_le hi
    refine ⟨(j * 7 + n) % 256, by omega, ?_⟩
    clear h
    go_enter Tryd.func19, Tryd.ntmps19
    go_wp2
    go_ret
    refine ⟨?_, rfl⟩
    congr 2
/-- '[]byte(y)': a row of its own with the string's bytes. -/
theorem bytes_told (w : World) (y : ByteArray) : ∃ (g cap : Nat) (w' : World), (convert 9 22 (.string y)).run Tryd.prog w = .ok (.slice (some ⟨g, 0, none⟩) y.size cap) w' ∧ w.heap.size ≤ g ∧ Below w.heap.size w w' ∧
    (∀ k (h : k < y.size), w'.cell? ⟨g, k, none⟩ = some (.int .u8 (y[k].toNat : Int))) ∧ ∀ k, k < y.size → w'.frozen? ⟨g, k, none⟩ = false := by
  refine ⟨_, _, _, run_bytes_of_string w 9 22 5 y Tryd.underlying9 Tryd.underlying22 Tryd.underlying5, Nat.le_refl _, ((Fmt.below_drewN w 1).alloc (Nat.le_refl _) _), fun k h => ?_, fun k h => ?_⟩
  · have := World.cell?_alloc_mark w.drew (bytesRow y (grownCap w y.size 0 5)) 5 ((bytesRow y (grownCap w y.size 0 5)).size, (bytesRow y (grownCap w y.size 0 5)).size + 1) k
    refine Eq.trans this ?_
    exact bytesRow_at y _ k h
  · have := World.frozen?_alloc_mark w.drew (bytesRow y (grownCap w y.size 0 5)) 5 (bytesRow y (grownCap w y.size 0 5)).size ((bytesRow y (grownCap w y.size 0 5)).size + 1) k
    refine Eq.trans this ?_
    have hs : y.size ≤ (bytesRow y (grownCap w y.size 0 5)).size := by
      unfold bytesRow
      simp
    simp; omega
/-- 'string(b)' behind one store. -/
theorem back_told (w : World) (y : ByteArray) (g cap k : Nat) (c : UInt8) (hk : k < y.size) (hc : ∀ j (h : j < y.size), w.cell? ⟨g, j, none⟩ = some (.int .u8 (y[j].toNat : Int))) :
    (convert 22 9 (.slice (some ⟨g, 0, none⟩) y.size cap)).run Tryd.prog (w.setCell ⟨g, k, none⟩ (.int .u8 (c.toNat : Int))) = .ok (.string ⟨(y.data.toList.set k c).toArray⟩) (w.setCell ⟨g, k, none⟩ (.int .u8 (c.toNat : Int))) := by
  have h := run_convert_bytes_back (P := Tryd.prog) (w.setCell ⟨g, k, none⟩ (.int .u8 (c.toNat : Int))) 22 9 5 ⟨g, 0, none⟩ cap (y.data.toList.set k c) Tryd.underlying22 Tryd.underlying5 Tryd.underlying9 (fun j hj => by
    have hj' : j < y.size := by simpa using hj
    have ha : (⟨g, 0, none⟩ : Addr).add j = ⟨g, j, none⟩ := by simp [Addr.add]; intro h; omega
    rw [ha]
    by_cases e : j = k
    · subst e
      rw [World.cell?_setCell_same _ _ _ (hc j hj')]
      simp
    · rw [World.cell?_setCell_other _ _ _ _ (by simp), hc j hj']
      rw [List.getElem_set_ne (by omega)]
      simp; rfl)
  have hl : (y.data.toList.set k c).length = y.size := by simp
  rw [hl] at h
  exact h
theorem below_set {w : World} {B g k : Nat} {v : Value} (h : B ≤ g) : Below B w (w.setCell ⟨g, k, none⟩ v) := by
  refine ⟨rfl, rfl, rfl, by simp [World.setCell], fun j hj => ?_⟩
  simp only [World.setCell, Array.getElem?_modify]
  rw [if_neg (by omega)]
end Go.Proofs.YtlcgfohljkcngaaDoor.More
