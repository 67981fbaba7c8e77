/- The functions and values of events chosen by their kind and their owner. (Written by wip/tools/genpairs.py.) -/
import Derived.Test.YtmfapjjgcjkkcaaRowA
import Derived.Test.YtmfapjjgcjkkcaaRead3
import Derived.Test.YtmfapjjgcjkkcaaM19
import Derived.Test.YtmfapjjgcjkkcaaM14
import Derived.Deep.AppendLies
import Derived.BigRegion
import Derived.BigQuiet
namespace Go.Proofs.Ytmfapjjgcjkkcaa.PairsP
set_option linter.unusedVariables false
set_option linter.unusedSimpArgs false
open Go.ChangeShapes Go.WideShapes Go.ChangeAt Go.RowKit
open PL Mem Srun Sst IntsP RowC RowA AccP Read3

/-- The functions and values of the events that are chosen, of the first j. -/
def picks (sel : Nat → Tr → Bool) (t : List Tr) : Nat → List Pr
  | 0 => []
  | j + 1 => match t[j]? with
    | some e => if sel j e = true then picks sel t j ++ [e.2] else picks sel t j
    | none => picks sel t j
theorem picks_yes {sel : Nat → Tr → Bool} {t : List Tr} {j : Nat} {e : Tr} (h : t[j]? = some e) (hs : sel j e = true) : picks sel t (j + 1) = picks sel t j ++ [e.2] := by
  rw [picks, h]
  exact if_pos hs
theorem picks_no {sel : Nat → Tr → Bool} {t : List Tr} {j : Nat} {e : Tr} (h : t[j]? = some e) (hs : sel j e = false) : picks sel t (j + 1) = picks sel t j := by
  rw [picks, h]
  exact if_neg (by rw [hs]; decide)
theorem picks_len (sel : Nat → Tr → Bool) (t : List Tr) : ∀ j, (picks sel t j).length ≤ j
  | 0 => Nat.le_refl _
  | j + 1 => by
    have := picks_len sel t j
    rw [picks]
    split
    · split
      · rw [List.length_append, List.length_singleton]; omega
      · omega
    · omega
def selK (k : Int) (T : PL.Told) (own : Int → Bool) (j : Nat) (e : Tr) : Bool := e.1 == k && (match T.owners[j]? with | some o => own o | none => false)
theorem selK_kind {k : Int} {T : PL.Told} {own : Int → Bool} {j : Nat} {e : Tr} (h : e.1 ≠ k) : selK k T own j e = false := by unfold selK; simp [h]
theorem selK_own {k : Int} {T : PL.Told} {own : Int → Bool} {j : Nat} {e : Tr} {o : Int} (h : e.1 = k) (ho : T.owners[j]? = some o) : selK k T own j e = own o := by unfold selK; rw [h, ho]; simp
theorem whole_owners {t : List Tr} (hw : Whole t) : (∀ (i : Nat) (o : Int), (tds t).owners[i]? = some o → 0 ≤ o ∧ o < (tds t).calls.length) ∧ (tds t).owners.length = t.length := by
  have h := hw.inv t.length (Nat.le_refl _)
  have h1 := h.own
  have h2 := h.olen
  rw [List.take_length] at h1 h2
  exact ⟨h1, h2⟩
/-- What has been told, in a box, while a list grows. -/
structure TB (w : World) (lo gb : Nat) (cv ov : Value) (T : PL.Told) (W : World) : Prop where
  blk : Blk W gb 123 #[cv, ov]
  calls : OwnC W lo cv T.calls
  owners : OwnI W lo ov T.owners
  low : Below lo w W
theorem TB.chg {w W W' : World} {lo gb : Nat} {cv ov v : Value} {T : PL.Told} {xs : List Pr} (h : TB w lo gb cv ov T W) (ho : OwnA W lo v xs) (hlo : lo ≤ W.heap.size) (hc : Chg (fun x => v.ownBlock = some x) W W') : TB w lo gb cv ov T W' :=
  ⟨h.blk.chg hc (blk_apart ho h.blk (by decide)), own_chg h.calls hc (fun x hx e => apart h.calls ho (by decide) x hx e), own_chg h.owners hc (fun x hx e => apart h.owners ho (by decide) x hx e),
    h.low.trans (hc.below hlo (fun x hx e => by have := (World.ownsRow.lt ho x e).1; omega))⟩
theorem TB.below {w W W' : World} {lo gb : Nat} {cv ov : Value} {T : PL.Told} (h : TB w lo gb cv ov T W) (hlo : lo ≤ W.heap.size) (hb : Below W.heap.size W W') : TB w lo gb cv ov T W' :=
  ⟨h.blk.below hb h.blk.lt, own_below h.calls hb (Nat.le_refl _), own_below h.owners hb (Nat.le_refl _), h.low.trans (hb.mono hlo)⟩
/-- A list of pairs that is returned. -/
def PairsR (xs : List Pr) (w : World) (e : Ending) (w' : World) : Prop :=
  ∃ A c, e = .returned (.slice A xs.length c) ∧ OwnA w' w.heap.size (.slice A xs.length c) xs ∧ Below w.heap.size w w'

end Go.Proofs.Ytmfapjjgcjkkcaa.PairsP
