import Derived.Test.YthejnpignlhgiaaFrp
import Derived.Test.YthejnpignlhgiaaSays
set_option linter.all false
namespace Go.Proofs.Ythejnpignlhgiaa.Sep
open PL AskP Res Srun Swhole Sout RunF StS Frp SaysP
structure Sen where
 jobs : List Int
 hooks : List Int
 says : List Int
 code : Int
 shared : Int
def sen0 : Sen := { jobs := [], hooks := [], says := [], code := 0, shared := 0 }
def sharedAt (mode : Int) (s : Sen) : Int := if mode = 3 then 0 else s.shared
def oneR (p : Pg) (fuel mode : Int) (s : Sen) (f arg : Int) : Out := told (frm p f arg fuel (sharedAt mode s))
def oneS (p : Pg) (fuel mode : Int) (s : Sen) (f arg : Int) : Sen :=
 {s with shared := (frm p f arg fuel (sharedAt mode s)).1.shared, says := s.says ++ saids (oneR p fuel mode s f arg).trace }
def jobS (p : Pg) (fuel mode : Int) (s : Sen) (j : Int × Int) : Sen :=
 {oneS p fuel mode s j.1 j.2 with jobs := s.jobs ++ [(oneR p fuel mode s j.1 j.2).kind], code := max s.code (codeO (oneR p fuel mode s j.1 j.2)) }
def goesOn (p : Pg) (fuel mode : Int) (s : Sen) (j : Int × Int) : Bool := !(mode == 2 && !((oneR p fuel mode s j.1 j.2).kind == 1))
def jobsS (p : Pg) (fuel mode : Int) : List (Int × Int) → Sen → Sen
 | [], s => s
 | j :: js, s => if goesOn p fuel mode s j = true then jobsS p fuel mode js (jobS p fuel mode s j) else jobS p fuel mode s j
def hookS (p : Pg) (fuel mode : Int) (s : Sen) (h : Int) : Sen :=
 {oneS p fuel mode s h s.code with hooks := s.hooks ++ [(oneR p fuel mode s h s.code).kind], code := if (oneR p fuel mode s h s.code).kind = 1 then s.code else max s.code (codeO (oneR p fuel mode s h s.code)) }
def hooksS (p : Pg) (fuel mode : Int) (hs : List Int) : Nat → Sen → Sen
 | 0, s => s
 | k + 1, s => hooksS p fuel mode hs k (hookS p fuel mode s (hs.getD k 0))
def sesS (p : Pg) (fuel mode : Int) (js : List (Int × Int)) (hs : List Int) : Sen := hooksS p fuel mode hs hs.length (jobsS p fuel mode js sen0)
structure WfS (a b : Nat) (s : Sen) : Prop where
 jobs : s.jobs.length ≤ a
 hooks : s.hooks.length ≤ b
 says : s.says.length ≤ 602 * (a + b)
 code0 : 0 ≤ s.code
 code1 : s.code ≤ 255
 shared : N16 s.shared
theorem wf0 : WfS 0 0 sen0 := ⟨Nat.le_refl _, Nat.le_refl _, Nat.zero_le _, by decide, by decide, N16_0⟩
theorem sharedAt_n {mode : Int} {s : Sen} (h : N16 s.shared) : N16 (sharedAt mode s) := by
 unfold sharedAt
 split
 ·exact N16_0
 ·exact h
theorem one_len {p : Pg} {fuel mode f arg : Int} {s : Sen} (ha : asks p f arg fuel = true) (h : N16 s.shared) : (saids (oneR p fuel mode s f arg).trace).length ≤ 602 :=
 Nat.le_trans (saids_len _) (frm_len ha (sharedAt_n h))
theorem one_left {p : Pg} {fuel mode f arg : Int} {s : Sen} (ha : asks p f arg fuel = true) (h : N16 s.shared) : N16 (frm p f arg fuel (sharedAt mode s)).1.shared := frm_left ha (sharedAt_n h)
theorem job_wf {p : Pg} {fuel mode : Int} {a b : Nat} {s : Sen} {j : Int × Int} (h : WfS a b s) (ha : asks p j.1 j.2 fuel = true) : WfS (a + 1) b (jobS p fuel mode s j) := by
 have h1 := one_len (mode := mode) ha h.shared
 have h2 := codeO_rng (oneR p fuel mode s j.1 j.2)
 have hj := h.jobs
 have hs := h.says
 have c0 := h.code0
 have c1 := h.code1
 refine ⟨?_, h.hooks, ?_, ?_, ?_, one_left ha h.shared⟩
 ·show (s.jobs ++ [_]).length ≤ a + 1
  rw [List.length_append, List.length_singleton]
  omega
 ·show (s.says ++ _).length ≤ _
  rw [List.length_append]
  omega
 ·show 0 ≤ max s.code _
  omega
 ·show max s.code _ ≤ 255
  omega
theorem hook_wf {p : Pg} {fuel mode x : Int} {a b : Nat} {s : Sen} (h : WfS a b s) (ha : asks p x s.code fuel = true) : WfS a (b + 1) (hookS p fuel mode s x) := by
 have h1 := one_len (mode := mode) ha h.shared
 have h2 := codeO_rng (oneR p fuel mode s x s.code)
 have hj := h.hooks
 have hs := h.says
 have c0 := h.code0
 have c1 := h.code1
 refine ⟨h.jobs, ?_, ?_, ?_, ?_, one_left ha h.shared⟩
 ·show (s.hooks ++ [_]).length ≤ b + 1
  rw [List.length_append, List.length_singleton]
  omega
 ·show (s.says ++ _).length ≤ _
  rw [List.length_append]
  omega
 ·show 0 ≤ (if _ then s.code else max s.code _)
  split
  ·exact c0
  ·exact Int.le_trans c0 (Int.le_max_left _ _)
 ·show (if _ then s.code else max s.code _) ≤ 255
  split
  ·exact c1
  ·exact Int.max_le.2 ⟨c1, h2.2⟩
theorem WfS.mono {a b a' b' : Nat} {s : Sen} (h : WfS a b s) (ha : a ≤ a') (hb : b ≤ b') : WfS a' b' s := by
 have := h.jobs
 have := h.hooks
 have := h.says
 exact ⟨by omega, by omega, by omega, h.code0, h.code1, h.shared⟩
theorem jobs_wf {p : Pg} {fuel mode : Int} {b : Nat} : ∀ (js : List (Int × Int)) (a : Nat) (s : Sen), WfS a b s → (∀ j ∈ js, asks p j.1 j.2 fuel = true) → WfS (a + js.length) b (jobsS p fuel mode js s)
 | [], a, s, h, _ => h
 | j :: js, a, s, h, hj => by
  have h1 := job_wf (mode := mode) h (hj j (List.mem_cons_self ..))
  rw [jobsS, List.length_cons]
  split
  ·have := jobs_wf (mode := mode) js (a + 1) _ h1 (fun k hk => hj k (List.mem_cons_of_mem _ hk))
   exact this.mono (by omega) (Nat.le_refl _)
  ·exact h1.mono (by omega) (Nat.le_refl _)
theorem hooks_wf {p : Pg} {fuel mode : Int} {a : Nat} {hs : List Int} : ∀ (k b : Nat) (s : Sen), WfS a b s → (∀ i, i < k → ∀ c : Int, 0 ≤ c → c ≤ 255 → asks p (hs.getD i 0) c fuel = true) → WfS a (b + k) (hooksS p fuel mode hs k s)
 | 0, b, s, h, _ => h
 | k + 1, b, s, h, hh => by
  have h1 := hook_wf (mode := mode) h (hh k (by omega) s.code h.code0 h.code1)
  rw [hooksS]
  exact (hooks_wf (mode := mode) k (b + 1) _ h1 (fun i hi => hh i (by omega))).mono (Nat.le_refl _) (by omega)
def okJob (p : Pg) (j : Int × Int) : Bool := isFn p j.1 && isNum j.2
def sesB (p : Pg) (js : List (Int × Int)) (hs : List Int) (mode : Int) : Bool :=
 decide (js.length ≤ 12) && (decide (hs.length ≤ 12) && (StpS.btw mode 1 3 && (js.all (okJob p) && hs.all (isFn p))))
def okSes (p : Pg) (js : List (Int × Int)) (hs : List Int) (mode : Int) : Bool := okProg p && sesB p js hs mode
def askSes (p : Pg) (js : List (Int × Int)) (hs : List Int) (mode fuel : Int) : Bool := okSes p js hs mode && StpS.btw fuel 0 200
theorem ses_parts {p : Pg} {js : List (Int × Int)} {hs : List Int} {mode fuel : Int} (h : askSes p js hs mode fuel = true) :
  okProg p = true ∧ js.length ≤ 12 ∧ hs.length ≤ 12 ∧ 1 ≤ mode ∧ mode ≤ 3 ∧ 0 ≤ fuel ∧ fuel ≤ 200 ∧ (∀ j ∈ js, asks p j.1 j.2 fuel = true) ∧ (∀ x ∈ hs, ∀ c : Int, 0 ≤ c → c ≤ 255 → asks p x c fuel = true) := by
 unfold askSes okSes sesB StpS.btw at h
 simp only [Bool.and_eq_true, decide_eq_true_eq, List.all_eq_true] at h
 obtain ⟨⟨h1, h2, h3, h4, h5, h6⟩, h7, h8⟩ := h
 refine ⟨h1, h2, h3, h4.1, h4.2, h7, h8, fun j hj => ?_, fun x hx c c0 c1 => ?_⟩
 ·have := h5 j hj
  unfold okJob at this
  rw [Bool.and_eq_true] at this
  unfold asks
  simp only [Bool.and_eq_true, decide_eq_true_eq]
  exact ⟨⟨⟨this.1, this.2⟩, h7⟩, h8⟩
 ·have := h6 x hx
  unfold asks isNum
  simp only [Bool.and_eq_true, decide_eq_true_eq]
  exact ⟨⟨⟨this, by omega, by omega⟩, h7⟩, h8⟩
theorem ses_wf {p : Pg} {js : List (Int × Int)} {hs : List Int} {mode fuel : Int} (h : askSes p js hs mode fuel = true) : WfS 12 12 (sesS p fuel mode js hs) := by
 obtain ⟨_, h2, h3, _, _, _, _, h8, h9⟩ := ses_parts h
 have h1 := jobs_wf (p := p) (fuel := fuel) (mode := mode) js 0 sen0 wf0 h8
 have := hooks_wf (p := p) (fuel := fuel) (mode := mode) (hs := hs) hs.length 0 _ h1 (fun i hi c c0 c1 => h9 _ (by rw [List.getD_eq_getElem?_getD, List.getElem?_eq_getElem hi]; exact List.getElem_mem hi) c c0 c1)
 exact this.mono (by omega) (by omega)
theorem take_ok {p : Pg} {js : List (Int × Int)} {hs : List Int} {mode fuel : Int} (h : askSes p js hs mode fuel = true) (k : Nat) : askSes p (js.take k) hs mode fuel = true := by
 unfold askSes okSes sesB at *
 simp only [Bool.and_eq_true, decide_eq_true_eq, List.all_eq_true] at *
 obtain ⟨⟨h1, h2, h3, h4, h5, h6⟩, h7⟩ := h
 exact ⟨⟨h1, by rw [List.length_take]; omega, h3, h4, fun j hj => h5 j (List.mem_of_mem_take hj), h6⟩, h7⟩
def isSesR (p : Pg) (js : List (Int × Int)) (hs : List Int) (mode : Int) : Bool × Bool := if okProg p = true then (okSes p js hs mode, true) else (false, false)
def kindsR (p : Pg) (js : List (Int × Int)) (hs : List Int) (mode fuel : Int) : List Int × List Int × Bool :=
 if askSes p js hs mode fuel = true then ((sesS p fuel mode js hs).jobs, (sesS p fuel mode js hs).hooks, true) else ([], [], false)
def scodeR (p : Pg) (js : List (Int × Int)) (hs : List Int) (mode fuel : Int) : Int × Bool :=
 if askSes p js hs mode fuel = true then ((sesS p fuel mode js hs).code, true) else (0, false)
def ssaysR (p : Pg) (js : List (Int × Int)) (hs : List Int) (mode fuel : Int) : List Int × Bool :=
 if askSes p js hs mode fuel = true then ((sesS p fuel mode js hs).says, true) else ([], false)
def leftR (p : Pg) (js : List (Int × Int)) (hs : List Int) (mode fuel : Int) : Int × Bool :=
 if askSes p js hs mode fuel = true then ((sesS p fuel mode js hs).shared, true) else (0, false)
def jobsGo (p : Pg) (fuel mode code : Int) (js : List (Int × Int)) (hs : List Int) : Nat → Nat → Int × Bool
 | 0, _ => (0, false)
 | l + 1, q => if code ≤ (sesS p fuel mode (js.take q) hs).code then (q, true) else jobsGo p fuel mode code js hs l (q + 1)
def neededR (p : Pg) (js : List (Int × Int)) (hs : List Int) (mode fuel code : Int) : Int × Bool :=
 if askSes p js hs mode fuel = true then jobsGo p fuel mode code js hs (js.length + 1) 0 else (0, false)
end Go.Proofs.Ythejnpignlhgiaa.Sep
-- squeezed
