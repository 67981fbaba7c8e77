/- The run of a program over lists, as a function; what stays true of its states. -/
namespace Go.Proofs.Ythjafhebebnldaa.PL
set_option linter.unusedVariables false
set_option linter.unusedSimpArgs false

/-- A step, or an event: three integers. -/
abbrev Tr := Int × Int × Int
abbrev Pg := List (List Tr)

def isReg (r : Int) : Bool := decide (0 ≤ r) && decide (r ≤ 3)
def isNum (n : Int) : Bool := decide (-32768 ≤ n) && decide (n ≤ 32767)

def okStep (n : Nat) (s : Tr) : Bool :=
  if s.1 = 1 then isReg s.2.1 && isNum s.2.2
  else if s.1 = 2 then isReg s.2.1 && isReg s.2.2
  else if s.1 = 4 ∨ s.1 = 5 then decide (0 ≤ s.2.1) && decide (s.2.1 < n) && isReg s.2.2
  else if s.1 = 11 then decide (0 ≤ s.2.1) && decide (s.2.1 ≤ 8) && isReg s.2.2
  else if s.1 = 10 then decide (s.2.1 = 0) && decide (s.2.2 = 0)
  else if s.1 = 3 ∨ s.1 = 6 ∨ s.1 = 7 ∨ s.1 = 8 ∨ s.1 = 9 ∨ s.1 = 12 ∨ s.1 = 13 then isReg s.2.1 && decide (s.2.2 = 0)
  else false

def okBody (n : Nat) (b : List Tr) : Bool := decide (b.length ≤ 8) && b.all (okStep n)
def okProg (p : Pg) : Bool := decide (1 ≤ p.length) && decide (p.length ≤ 6) && p.all (okBody p.length)

structure M where
  spent : Bool
  shared : Int
  made : Nat
  deep : Nat
  trace : List Tr
  seen : List (Int × Int)

structure Fr where
  f : Nat
  depth : Nat
  regs : List Int
  defers : List (Int × Int)
  kind : Int
  value : Int
  leaving : Bool
  deferred : Bool
  panicking : Bool
  panic : Int
  recovered : Bool
  outer : Int

def reg (c : Fr) (i : Int) : Int := c.regs.getD i.toNat 0
def setReg (c : Fr) (i : Int) (v : Int) : Fr := { c with regs := c.regs.set i.toNat v }
def tell (m : M) (k f v : Int) : M := { m with trace := m.trace ++ [(k, f, v)] }
def wrap16 (n : Int) : Int := (n + 163840) % 65536 - 32768

def simple (m : M) (c : Fr) (s : Tr) : M × Fr :=
  if s.1 = 1 then (m, setReg c s.2.1 s.2.2)
  else if s.1 = 2 then (m, setReg c s.2.1 (wrap16 (reg c s.2.1 + reg c s.2.2)))
  else if s.1 = 3 then (tell m 4 c.f (reg c s.2.1), c)
  else if s.1 = 9 then (m, if c.deferred then { c with outer := reg c s.2.1 } else c)
  else if s.1 = 12 then ({ m with shared := reg c s.2.1 }, c)
  else if s.1 = 13 then (m, setReg c s.2.1 m.shared)
  else if s.1 = 7 then
    (if c.panicking && !c.recovered then (tell m 6 c.f c.panic, setReg (setReg { c with recovered := true } s.2.1 c.panic) 3 1)
     else (m, setReg (setReg c s.2.1 0) 3 0))
  else (m, c)

def newFrame (f : Int) (depth : Nat) (arg : Int) : Fr :=
  { f := f.toNat, depth := depth, regs := [arg, 0, 0, 0], defers := [], kind := 0, value := 0, leaving := false, deferred := false, panicking := false, panic := 0, recovered := false, outer := 0 }

/-- What a call that is not deferred leaves in the frame of its caller. -/
def innerEnd (c i : Fr) (a : Int) : Fr × Int :=
  if i.kind = 1 then (setReg c 2 (reg i 1), a + 1)
  else if i.kind = 2 then ({ c with kind := 2, value := i.value, leaving := c.leaving || i.leaving }, -1)
  else if i.kind = 3 then ({ c with kind := 3, leaving := c.leaving || i.leaving }, -1)
  else ({ c with leaving := c.leaving || i.leaving }, -1)

def mk (inner : M → Fr → M × Fr) (m : M) (c : Fr) (a : Int) (s : Tr) : M × Fr × Int :=
  if s.1 = 4 then
    ((inner m (newFrame s.2.1 (c.depth + 1) (reg c s.2.2))).1, innerEnd c (inner m (newFrame s.2.1 (c.depth + 1) (reg c s.2.2))).2 a)
  else if s.1 = 5 then (tell m 2 s.2.1 (reg c s.2.2), { c with defers := c.defers ++ [(s.2.1, reg c s.2.2)] }, a + 1)
  else if s.1 = 6 then (tell m 5 c.f (reg c s.2.1), { c with kind := 2, value := reg c s.2.1 }, -1)
  else if s.1 = 8 then (m, setReg c 1 (reg c s.2.1), -1)
  else if s.1 = 10 then (m, { c with kind := 3, leaving := true }, -1)
  else if s.1 = 11 then (m, c, if reg c s.2.2 > 0 then s.2.1 else a + 1)
  else ((simple m c s).1, (simple m c s).2, a + 1)

def count (m : M) (f a : Int) : M := { m with made := m.made + 1, seen := m.seen ++ [(f, a)] }

def body (inner : M → Fr → M × Fr) (b : List Tr) (fuel : Nat) : Nat → M → Fr → Int → M × Fr
  | 0, m, c, _ => (m, c)
  | n + 1, m, c, a =>
    if 0 ≤ a ∧ a < b.length then
      if m.made = fuel then ({ m with spent := true }, c)
      else if (mk inner (count m c.f a) c a (b.getD a.toNat (0, 0, 0))).1.spent then
        ((mk inner (count m c.f a) c a (b.getD a.toNat (0, 0, 0))).1, (mk inner (count m c.f a) c a (b.getD a.toNat (0, 0, 0))).2.1)
      else body inner b fuel n (mk inner (count m c.f a) c a (b.getD a.toNat (0, 0, 0))).1 (mk inner (count m c.f a) c a (b.getD a.toNat (0, 0, 0))).2.1
        (mk inner (count m c.f a) c a (b.getD a.toNat (0, 0, 0))).2.2
    else (m, c)

def lastFrame (c : Fr) : Fr :=
  { newFrame ((c.defers.getLast?.getD (0, 0)).1) (c.depth + 1) ((c.defers.getLast?.getD (0, 0)).2) with
    deferred := true, outer := reg c 1, panicking := decide (c.kind = 2), panic := if c.kind = 2 then c.value else 0 }

def lastEnd (c i : Fr) : Fr :=
  let l := c.leaving || i.leaving
  let k := if i.kind = 2 then 2 else if i.kind = 3 then 3 else if i.recovered then (if l then 3 else 1) else c.kind
  { setReg c 1 i.outer with leaving := l, kind := k, value := if i.kind = 2 then i.value else c.value }

def dropLast (c : Fr) : Fr := { c with defers := c.defers.dropLast }

def last (inner : M → Fr → M × Fr) (m : M) (c : Fr) : M × Fr :=
  if (inner m (lastFrame c)).1.spent then ((inner m (lastFrame c)).1, dropLast c)
  else ((inner m (lastFrame c)).1, lastEnd (dropLast c) (inner m (lastFrame c)).2)

def dfr (inner : M → Fr → M × Fr) : Nat → M → Fr → M × Fr
  | 0, m, c => (m, c)
  | n + 1, m, c =>
    if c.defers = [] then (m, c)
    else if (last inner m c).1.spent then last inner m c
    else dfr inner n (last inner m c).1 (last inner m c).2

def finish (m : M) (c : Fr) : M :=
  if c.kind = 1 then tell m 7 c.f (reg c 1) else if c.kind = 2 then tell m 8 c.f c.value else if c.kind = 3 then tell m 9 c.f 0 else m

def begin_ (m : M) (c : Fr) : M := tell { m with deep := max m.deep c.depth } (if c.deferred then 3 else 1) c.f (reg c 0)

def call (p : Pg) (fuel : Nat) : Nat → M → Fr → M × Fr
  | 0, m, c => ({ m with spent := true }, c)
  | d + 1, m, c =>
    let r := body (call p fuel d) (p.getD c.f []) fuel (fuel + 1) (begin_ m c) { c with kind := 1 } 0
    if r.1.spent then r
    else
      let q := dfr (call p fuel d) r.2.defers.length r.1 r.2
      if q.1.spent then q else (finish q.1 q.2, q.2)

def start : M := { spent := false, shared := 0, made := 0, deep := 0, trace := [], seen := [] }
def whole (p : Pg) (fuel : Nat) (f arg : Int) : M × Fr := call p fuel 8 start (newFrame f 1 arg)

/-- The outcome: kind, value, trace, spent. -/
def told (r : M × Fr) : Int × Int × List Tr × Nat :=
  (if r.1.spent then 4 else r.2.kind, if r.1.spent then 0 else if r.2.kind = 1 then reg r.2 1 else if r.2.kind = 2 then r.2.value else 0, r.1.trace, r.1.made)
def run (p : Pg) (fuel : Nat) (f arg : Int) : Int × Int × List Tr × Nat := told (whole p fuel f arg)
end Go.Proofs.Ythjafhebebnldaa.PL
