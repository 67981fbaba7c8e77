import Derived.Test.YthejnpignlhgiaaM12
import Derived.Test.YthejnpignlhgiaaM3
set_option linter.all false
namespace Go.Proofs.Ythejnpignlhgiaa.StS
open PL AskP Srun Swhole Sout Leav
def startS (s : Int) : M := { spent := false, shared := s, made := 0, deep := 0, trace := [], seen := [] }
theorem startS_zero : startS 0 = PL.start := rfl
def frm (p : Pg) (f arg fuel s : Int) : M × Fr := PL.call p fuel 8 (startS s) (newFrame f 1 arg)
theorem frm_zero (p : Pg) (f arg fuel : Int) : frm p f arg fuel 0 = whole p fuel f arg := rfl
theorem startS_m {fuel K s : Int} (h0 : 0 ≤ fuel) (h2 : fuel ≤ 200) (hs : N16 s) (hK : 600 ≤ K) : WfM fuel K (startS s) :=
 {made0 := by show (0 : Int) ≤ 0; omega, made1 := h0, fuel1 := h2, shared := hs, deep0 := by show (0 : Int) ≤ 0; omega, deep1 := by show (0 : Int) ≤ 8; omega, seen := rfl, pot := by show ((([] : List Tr).length : Nat) : Int) + 3 * (fuel - 0) ≤ K; simp; omega }
theorem frm_wf {p : Pg} {f arg fuel s : Int} (ha : asks p f arg fuel = true) (hs : N16 s) : WfM fuel 602 (frm p f arg fuel s).1 ∧ WfF p.length (frm p f arg fuel s).2 := by
 obtain ⟨h1, h2, h3, h4, h5, h6⟩ := start_wf (n := p.length) ha
 have hI : Inv p.length fuel 600 (startS s) (newFrame f 1 arg) := ⟨startS_m h5 h6 hs (by show (600 : Int) ≤ 600 - 2 * ((([] : List (Int × Int)).length : Nat) : Int); simp), newFrame_wf f 1 arg h2 h3 h4⟩
 obtain ⟨g1, g2, _, _⟩ := call_good h1 (fuel := fuel) 8 (Nat.le_refl _) 600 (startS s) (newFrame f 1 arg) hI (by show (1 : Int) = 9 - ((8 : Nat) : Int); omega)
 exact ⟨g1, g2⟩
theorem frm_len {p : Pg} {f arg fuel s : Int} (ha : asks p f arg fuel = true) (hs : N16 s) : (told (frm p f arg fuel s)).trace.length ≤ 602 := by
 have h := (frm_wf ha hs).1
 have h1 := h.pot
 have h2 := h.made1
 show (frm p f arg fuel s).1.trace.length ≤ 602
 omega
theorem frm_left {p : Pg} {f arg fuel s : Int} (ha : asks p f arg fuel = true) (hs : N16 s) : N16 (frm p f arg fuel s).1.shared := (frm_wf ha hs).1.shared
theorem frm_kind {p : Pg} {f arg fuel s : Int} (ha : asks p f arg fuel = true) : 1 ≤ (told (frm p f arg fuel s)).kind ∧ (told (frm p f arg fuel s)).kind ≤ 4 := by
 obtain ⟨h1, h2, h3, h4, h5, h6⟩ := start_wf (n := p.length) ha
 have hlv := call_lv h1 (fuel := fuel) 8 (startS s) (newFrame f 1 arg) rfl
 unfold frm
 generalize PL.call p fuel 8 (startS s) (newFrame f 1 arg) = r at *
 unfold told
 dsimp only
 split
 ·omega
 ·rename_i h
  have := (hlv (by simpa using h)).2
  omega
theorem told_value {fuel K N : Int} {r : M × Fr} (h1 : WfM fuel K r.1) (h2 : WfF N r.2) : N16 (told r).value := by
 unfold told
 dsimp only
 split
 ·exact N16_0
 ·split
  ·exact h2.r1
  ·split
   ·exact h2.value
   ·exact N16_0
end Go.Proofs.Ythejnpignlhgiaa.StS
-- squeezed
