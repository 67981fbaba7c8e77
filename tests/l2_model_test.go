package tests

import (
	"fmt"
	"math/rand/v2"
	"slices"
	"strings"

	"loop.example/g01183/impl"
)

// The Steps of test programs, by short names.
func set(r int, n int) impl.Step      { return impl.Step{Kind: impl.StepSet, A: r, B: n} }
func add(r int, s int) impl.Step      { return impl.Step{Kind: impl.StepAdd, A: r, B: s} }
func say(r int) impl.Step             { return impl.Step{Kind: impl.StepSay, A: r} }
func call(f int, r int) impl.Step     { return impl.Step{Kind: impl.StepCall, A: f, B: r} }
func later(f int, r int) impl.Step    { return impl.Step{Kind: impl.StepDefer, A: f, B: r} }
func throw(r int) impl.Step           { return impl.Step{Kind: impl.StepPanic, A: r} }
func save(r int) impl.Step            { return impl.Step{Kind: impl.StepRecover, A: r} }
func give(r int) impl.Step            { return impl.Step{Kind: impl.StepReturn, A: r} }
func outer(r int) impl.Step           { return impl.Step{Kind: impl.StepOuter, A: r} }
func exit() impl.Step                 { return impl.Step{Kind: impl.StepExit} }
func jump(place int, r int) impl.Step { return impl.Step{Kind: impl.StepJump, A: place, B: r} }
func keep(r int) impl.Step            { return impl.Step{Kind: impl.StepKeep, A: r} }
func take(r int) impl.Step            { return impl.Step{Kind: impl.StepTake, A: r} }

func body(steps ...impl.Step) []impl.Step { return steps }

func program(bodies ...[]impl.Step) impl.Program { return impl.Program{Functions: bodies} }

func event(kind int, function int, value int) impl.Event {
	return impl.Event{Kind: kind, Function: function, Value: value}
}

// modelCall is a call on the stack of modelRun.
type modelCall struct {
	function, at int
	reg          [4]int
	waiting      [][2]int
	deferred     bool
	bodyEnded    bool
	ended        bool
	leaving      bool
	counted      bool
	kind, value  int
	// What is told of it when the run is over.
	number, parent, depth int
	put, ran              [][2]int
	on                    *modelPanic
	saved                 bool
}

// modelPanic is a panic of modelRun, with what is told of it. Its chain has the values of all
// panics that lead to it so far, and its own.
type modelPanic struct {
	number, function, value, depth int
	fate, replacer                 int
	unwound, chain                 []int
}

// modelRun runs a Program as chapter 2 says it, beside the program: with a stack of its own
// instead of calls of Go. It writes down what chapter 3 tells of calls, chapter 4 of panics,
// chapter 5 of recoveries, and chapter 11 of Steps, while they are made. What it has at the end as
// shared is what the run leaves.
type modelRun struct {
	p       impl.Program
	stack   []*modelCall
	shared  int
	deepest int
	stopped bool
	out     impl.Outcome
	calls   []*modelCall
	owners  []int
	results [][2]int
	panics  []*modelPanic
	saved   [][2]int
	// What chapter 5 tells: the numbers of the calls that are saved, and how much deeper their
	// panics were made.
	savedCalls, gaps []int
	rethrows         int
	// What chapter 10 tells: the functions of the calls that exit.
	exiting []int
	// What chapter 11 tells: the Steps that are made, by functions and places.
	made [6][8]bool
}

// modelOutcome returns the Outcome of a run and how deep its calls were.
func modelOutcome(p impl.Program, f int, arg int, fuel int) (impl.Outcome, int) {
	m := modelOf(p, f, arg, fuel)
	return m.out, m.deepest
}

// modelOf runs a Program to its end, or until all is spent.
func modelOf(p impl.Program, f int, arg int, fuel int) *modelRun {
	return modelFrom(p, f, arg, fuel, 0)
}

// modelFrom runs a Program in the same way, but begins with a shared number.
func modelFrom(p impl.Program, f int, arg int, fuel int, shared int) *modelRun {
	m := &modelRun{p: p, shared: shared}
	m.open(f, arg, false)
	for len(m.stack) > 0 && !m.stopped {
		c := m.stack[len(m.stack)-1]
		switch {
		case !c.bodyEnded && c.at >= len(p.Functions[c.function]):
			m.endBody(c, impl.OutReturned, 0)
		case !c.bodyEnded && m.out.Spent == fuel:
			m.stopped = true
		case !c.bodyEnded:
			m.out.Spent++
			m.step(c)
		case len(c.waiting) > 0:
			next := c.waiting[len(c.waiting)-1]
			c.waiting = c.waiting[:len(c.waiting)-1]
			m.open(next[0], next[1], true)
		default:
			m.close(c)
		}
	}
	if m.stopped {
		m.out.Kind, m.out.Value = impl.OutSpent, 0
	}
	return m
}

func (m *modelRun) event(kind int, function int, value int) {
	m.out.Trace = append(m.out.Trace, event(kind, function, value))
	m.owners = append(m.owners, m.stack[len(m.stack)-1].number)
}

func (m *modelRun) open(f int, arg int, deferred bool) {
	if len(m.stack) == 8 {
		m.stopped = true
		return
	}
	c := &modelCall{function: f, reg: [4]int{arg}, deferred: deferred, number: len(m.calls), parent: -1, depth: len(m.stack) + 1}
	if len(m.stack) > 0 {
		above := m.stack[len(m.stack)-1]
		c.parent = above.number
		if deferred {
			above.ran = append(above.ran, [2]int{f, arg})
		}
	}
	m.calls = append(m.calls, c)
	m.stack = append(m.stack, c)
	m.deepest = max(m.deepest, len(m.stack))
	if deferred {
		m.event(impl.EventRun, f, arg)
	} else {
		m.event(impl.EventCall, f, arg)
	}
}

func (m *modelRun) endBody(c *modelCall, kind int, value int) {
	c.bodyEnded, c.kind, c.value = true, kind, value
}

func (m *modelRun) close(c *modelCall) {
	c.ended = true
	switch c.kind {
	case impl.OutReturned:
		c.value = c.reg[1]
		m.results = append(m.results, [2]int{c.function, c.value})
		m.event(impl.EventReturn, c.function, c.value)
	case impl.OutPanicked:
		c.on.unwound = append(c.on.unwound, c.function)
		m.event(impl.EventUnwind, c.function, c.value)
	case impl.OutExited:
		m.exiting = append(m.exiting, c.function)
		m.event(impl.EventExit, c.function, 0)
	}
	m.stack = m.stack[:len(m.stack)-1]
	if len(m.stack) == 0 {
		m.out.Kind, m.out.Value = c.kind, c.value
		if c.kind == impl.OutPanicked {
			c.on.fate = impl.FateArrived
		}
		return
	}
	above := m.stack[len(m.stack)-1]
	above.leaving = above.leaving || c.leaving
	m.passOn(c, above)
	switch {
	case !c.deferred && c.kind == impl.OutReturned:
		above.reg[2] = c.value
	case c.kind != impl.OutReturned:
		m.endBody(above, c.kind, c.value)
	case c.counted && above.leaving:
		m.endBody(above, impl.OutExited, 0)
	case c.counted:
		m.endBody(above, impl.OutReturned, 0)
	}
}

// passOn writes down what the end of a call makes of the panic that is on in the call above it.
func (m *modelRun) passOn(c *modelCall, above *modelCall) {
	if old := above.on; c.deferred && old != nil && c.kind != impl.OutReturned {
		above.on = nil
		old.fate = impl.FateLost
		if c.kind == impl.OutPanicked {
			old.fate, old.replacer = impl.FateReplaced, c.on.number
			c.on.chain = append(slices.Clone(old.chain), c.on.value)
		}
	}
	if c.kind == impl.OutPanicked {
		above.on = c.on
	}
}

func (m *modelRun) step(c *modelCall) {
	s := m.p.Functions[c.function][c.at]
	m.made[c.function][c.at] = true
	c.at++
	switch s.Kind {
	case impl.StepSet:
		c.reg[s.A] = s.B
	case impl.StepAdd:
		c.reg[s.A] = wrapped(c.reg[s.A] + c.reg[s.B])
	case impl.StepSay:
		m.event(impl.EventSay, c.function, c.reg[s.A])
	case impl.StepCall:
		m.open(s.A, c.reg[s.B], false)
	case impl.StepDefer:
		m.event(impl.EventDefer, s.A, c.reg[s.B])
		c.waiting = append(c.waiting, [2]int{s.A, c.reg[s.B]})
		c.put = append(c.put, [2]int{s.A, c.reg[s.B]})
	case impl.StepPanic:
		m.event(impl.EventPanic, c.function, c.reg[s.A])
		c.on = &modelPanic{number: len(m.panics), function: c.function, value: c.reg[s.A], depth: len(m.stack), replacer: -1, chain: []int{c.reg[s.A]}}
		m.panics = append(m.panics, c.on)
		if c.counted {
			m.rethrows++
		}
		m.endBody(c, impl.OutPanicked, c.reg[s.A])
	case impl.StepRecover:
		m.recover(c, s.A)
	case impl.StepReturn:
		c.reg[1] = c.reg[s.A]
		m.endBody(c, impl.OutReturned, 0)
	case impl.StepOuter:
		if c.deferred {
			m.stack[len(m.stack)-2].reg[1] = c.reg[s.A]
		}
	case impl.StepExit:
		c.leaving = true
		m.endBody(c, impl.OutExited, 0)
	case impl.StepJump:
		if c.reg[s.B] > 0 {
			c.at = s.A
		}
	case impl.StepKeep:
		m.shared = c.reg[s.A]
	case impl.StepTake:
		c.reg[s.A] = m.shared
	}
}

func (m *modelRun) recover(c *modelCall, r int) {
	value, counts := 0, 0
	if c.deferred && !c.counted {
		if above := m.stack[len(m.stack)-2]; above.kind == impl.OutPanicked {
			value, counts = above.value, 1
		}
	}
	c.reg[r] = value
	c.reg[3] = counts
	if counts == 1 {
		c.counted = true
		above := m.stack[len(m.stack)-2]
		m.saved = append(m.saved, [2]int{above.on.number, c.function})
		m.savedCalls = append(m.savedCalls, above.number)
		m.gaps = append(m.gaps, above.on.depth-above.depth)
		above.saved = true
		above.on.fate, above.on = impl.FateRecovered, nil
		m.event(impl.EventRecover, c.function, value)
	}
}

// wrapped is the number of 16 bits that differs from n by a multiple of 65536.
func wrapped(n int) int {
	for n > 32767 {
		n -= 65536
	}
	for n < -32768 {
		n += 65536
	}
	return n
}

func sameOutcome(a impl.Outcome, b impl.Outcome) bool {
	return a.Kind == b.Kind && a.Value == b.Value && a.Spent == b.Spent && slices.Equal(a.Trace, b.Trace)
}

func sameProgram(a impl.Program, b impl.Program) bool {
	return slices.EqualFunc(a.Functions, b.Functions, slices.Equal[[]impl.Step])
}

// copied returns a Program that shares no memory with p.
func copied(p impl.Program) impl.Program {
	var other impl.Program
	for _, b := range p.Functions {
		other.Functions = append(other.Functions, append([]impl.Step{}, b...))
	}
	return other
}

// textByRule writes a Program as chapter 2 says it, beside the program.
func textByRule(p impl.Program) string {
	var bodies []string
	for _, b := range p.Functions {
		var steps []string
		for _, s := range b {
			steps = append(steps, fmt.Sprintf("%d.%d.%d", s.Kind, s.A, s.B))
		}
		bodies = append(bodies, strings.Join(steps, " "))
	}
	return strings.Join(bodies, "/")
}

// validStep tells by the table of chapter 2 whether a Step is valid, beside the program.
func validStep(s impl.Step, functions int) bool {
	low := map[byte]int{'R': 0, 'N': -32768, 'F': 0, 'P': 0, '-': 0}
	high := map[byte]int{'R': 3, 'N': 32767, 'F': functions - 1, 'P': 8, '-': 0}
	table := []string{1: "RN", 2: "RR", 3: "R-", 4: "FR", 5: "FR", 6: "R-", 7: "R-", 8: "R-", 9: "R-", 10: "--", 11: "PR", 12: "R-", 13: "R-"}
	if s.Kind < 1 || s.Kind >= len(table) {
		return false
	}
	a, b := table[s.Kind][0], table[s.Kind][1]
	return low[a] <= s.A && s.A <= high[a] && low[b] <= s.B && s.B <= high[b]
}

func validProgram(p impl.Program) bool {
	valid := 1 <= len(p.Functions) && len(p.Functions) <= 6
	for _, b := range p.Functions {
		valid = valid && len(b) <= 8
		for _, s := range b {
			valid = valid && validStep(s, len(p.Functions))
		}
	}
	return valid
}

// edgeNumbers are the numbers about which sums and bounds turn.
var edgeNumbers = []int{-32768, -32767, -2, -1, 0, 1, 2, 3, 32766, 32767}

// randomStep returns any valid Step of a Program with a number of functions.
func randomStep(r *rand.Rand, functions int) impl.Step {
	// Deferred calls, panics and recoveries come more often than what loops and calls.
	kinds := []int{1, 1, 2, 3, 4, 4, 5, 5, 5, 5, 6, 6, 7, 7, 7, 7, 8, 9, 9, 10, 10, 11, 12, 13}
	kind := kinds[r.IntN(len(kinds))]
	reg := r.IntN(4)
	switch kind {
	case impl.StepSet:
		return set(reg, edgeNumbers[r.IntN(len(edgeNumbers))])
	case impl.StepAdd:
		return add(reg, r.IntN(4))
	case impl.StepCall, impl.StepDefer:
		return impl.Step{Kind: kind, A: r.IntN(functions), B: reg}
	case impl.StepJump:
		return jump(r.IntN(9), reg)
	case impl.StepExit:
		return exit()
	}
	return impl.Step{Kind: kind, A: reg}
}

// randomPrograms returns valid Programs, always the same ones for the same seed.
func randomPrograms(seed uint64, count int) []impl.Program {
	r := rand.New(rand.NewPCG(seed, 2))
	all := make([]impl.Program, count)
	for i := range all {
		functions := 1 + r.IntN(6)
		for range functions {
			b := make([]impl.Step, r.IntN(9))
			for at := range b {
				b[at] = randomStep(r, functions)
			}
			all[i].Functions = append(all[i].Functions, b)
		}
	}
	return all
}

// bodiesOf returns all bodies of at most most Steps of a choice.
func bodiesOf(choice []impl.Step, most int) [][]impl.Step {
	return append([][]impl.Step{{}}, listsOf(choice, most)...)
}
