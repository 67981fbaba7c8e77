package tests

import (
	"math"
	"math/rand/v2"
	"slices"
	"testing"

	"loop.example/g01183/impl"
)

// readLetters and writtenLetters tell for each Kind which registers a Step reads and writes: those
// that its A and its B name, and those of the digits.
var (
	readLetters    = [14]string{2: "AB", 3: "A", 4: "B", 5: "B", 6: "A", 8: "A", 9: "A", 11: "B", 12: "A"}
	writtenLetters = [14]string{1: "A", 2: "A", 4: "2", 7: "A3", 8: "1", 13: "A"}
)

func registersByRule(s impl.Step, letters [14]string) []int {
	named := []int{}
	for _, letter := range letters[s.Kind] {
		switch letter {
		case 'A':
			named = append(named, s.A)
		case 'B':
			named = append(named, s.B)
		default:
			named = append(named, int(letter-'0'))
		}
	}
	slices.Sort(named)
	return slices.Compact(named)
}

// everyStep returns all valid Steps of a Program with two functions whose numbers are small.
func everyStep() []impl.Step {
	all := []impl.Step{}
	for kind := 1; kind <= 13; kind++ {
		for a := range 9 {
			for b := -1; b < 4; b++ {
				if s := (impl.Step{Kind: kind, A: a, B: b}); validStep(s, 2) {
					all = append(all, s)
				}
			}
		}
	}
	return all
}

// everyPlain returns those of these Steps that are plain.
func everyPlain() []impl.Step {
	return slices.DeleteFunc(everyStep(), func(s impl.Step) bool { return !slices.Contains(plainKinds, s.Kind) })
}

var plainKinds = []int{impl.StepSet, impl.StepAdd, impl.StepSay, impl.StepKeep, impl.StepTake}

func TestPromise9RegistersOfEachStep(t *testing.T) {
	for _, s := range everyStep() {
		for at := range impl.MaxBody {
			for _, size := range []int{at + 1, impl.MaxBody} {
				b := slices.Repeat(body(exit()), size)
				b[at] = s
				p := program(body(say(1), add(2, 3)), b)
				reads, one := impl.ReadsOf(p, 1, at)
				writes, two := impl.WritesOf(p, 1, at)
				if !one || !two || !slices.Equal(reads, registersByRule(s, readLetters)) || !slices.Equal(writes, registersByRule(s, writtenLetters)) {
					t.Fatal("registers of", s, "at", at, reads, writes, one, two)
				}
				if neither := len(reads)+len(writes) == 0; neither != (s.Kind == impl.StepExit) {
					t.Fatal("neither reads nor writes", s)
				}
			}
		}
	}
}

func TestPromise9Registers(t *testing.T) {
	for _, one := range []struct {
		step          impl.Step
		reads, writes []int
	}{
		{set(0, 32767), nil, []int{0}}, {set(3, -32768), nil, []int{3}}, {set(2, 0), nil, []int{2}},
		{add(0, 1), []int{0, 1}, []int{0}}, {add(3, 1), []int{1, 3}, []int{3}}, {add(2, 2), []int{2}, []int{2}}, {add(0, 0), []int{0}, []int{0}},
		{say(0), []int{0}, nil}, {say(3), []int{3}, nil},
		{call(1, 0), []int{0}, []int{2}}, {call(0, 2), []int{2}, []int{2}}, {call(1, 3), []int{3}, []int{2}},
		{later(1, 0), []int{0}, nil}, {later(0, 3), []int{3}, nil},
		{throw(2), []int{2}, nil}, {throw(0), []int{0}, nil},
		{save(0), nil, []int{0, 3}}, {save(2), nil, []int{2, 3}}, {save(3), nil, []int{3}},
		{give(0), []int{0}, []int{1}}, {give(1), []int{1}, []int{1}}, {give(3), []int{3}, []int{1}},
		{outer(1), []int{1}, nil}, {outer(3), []int{3}, nil},
		{exit(), nil, nil},
		{jump(0, 1), []int{1}, nil}, {jump(2, 0), []int{0}, nil}, {jump(8, 3), []int{3}, nil},
		{keep(0), []int{0}, nil}, {keep(2), []int{2}, nil},
		{take(0), nil, []int{0}}, {take(3), nil, []int{3}},
	} {
		p := program(body(exit(), one.step), nil)
		reads, ok := impl.ReadsOf(p, 0, 1)
		writes, fine := impl.WritesOf(p, 0, 1)
		if !ok || !fine || !slices.Equal(reads, one.reads) || !slices.Equal(writes, one.writes) {
			t.Error(one.step, reads, writes, ok, fine)
		}
	}
}

// exchangeableByRule tells as chapter 9 says it whether two Steps can be exchanged.
func exchangeableByRule(b []impl.Step, at int) bool {
	one, two := b[at], b[at+1]
	both := func(kinds ...int) bool {
		return slices.Contains(kinds, one.Kind) && slices.Contains(kinds, two.Kind)
	}
	if !both(plainKinds...) || both(impl.StepSay) || both(impl.StepKeep, impl.StepTake) {
		return false
	}
	for r := range 4 {
		reads, writes := [2]bool{}, [2]bool{}
		for i, s := range []impl.Step{one, two} {
			reads[i] = slices.Contains(registersByRule(s, readLetters), r)
			writes[i] = slices.Contains(registersByRule(s, writtenLetters), r)
		}
		if writes[0] && (reads[1] || writes[1]) || writes[1] && reads[0] {
			return false
		}
	}
	return !slices.ContainsFunc(b, func(s impl.Step) bool { return s.Kind == impl.StepJump && s.A == at+1 })
}

// checkExchange asks what chapter 9 tells of the Steps at a place and the next one, and returns
// whether they can be exchanged, and the Program in which they are.
func checkExchange(t *testing.T, p impl.Program, f int, at int) (bool, impl.Program) {
	t.Helper()
	can, one := impl.CanExchange(p, f, at)
	changed, two := impl.ExchangeSteps(p, f, at)
	if !one || !two || can != exchangeableByRule(p.Functions[f], at) {
		t.Fatalf("exchange at %d of %d of %s: %t %t %t", at, f, textByRule(p), can, one, two)
	}
	want := copied(p)
	want.Functions[f][at], want.Functions[f][at+1] = p.Functions[f][at+1], p.Functions[f][at]
	if !sameProgram(changed, want) || !impl.IsProgram(changed) {
		t.Fatalf("exchanged at %d of %d of %s: %s", at, f, textByRule(p), textByRule(changed))
	}
	if again, ok := impl.ExchangeSteps(changed, f, at); !ok || !sameProgram(again, p) {
		t.Fatalf("exchanged again at %d of %d of %s: %s", at, f, textByRule(p), textByRule(again))
	}
	return can, changed
}

func TestPromise9EachTwoStepsAreExchangedByTheirRule(t *testing.T) {
	all, plain := everyStep(), everyPlain()
	for _, one := range all {
		for _, two := range all {
			checkExchange(t, program(body(one, two), body(exit())), 0, 0)
		}
	}
	for i, one := range plain {
		for j, two := range plain {
			// Each pair with some of the StepJumps, ahead and behind, and at any place of the body.
			k := i*len(plain) + j
			goes := jump(k%9, k%4)
			checkExchange(t, program(body(exit()), body(goes, one, two)), 1, 1)
			checkExchange(t, program(body(exit()), body(one, two, goes)), 1, 0)
			long := slices.Repeat(body(exit(), goes, say(0)), 3)[:impl.MaxBody]
			at := k % 7
			long[at], long[at+1] = one, two
			checkExchange(t, program(body(exit()), long), 1, at)
		}
	}
}

// exchangingPrograms returns valid Programs, always the same ones for the same seed: most of their
// Steps are plain, some functions have no Steps, and calls and jumps mostly go on.
func exchangingPrograms(seed uint64, count int) []impl.Program {
	r := rand.New(rand.NewPCG(seed, 9))
	all := make([]impl.Program, count)
	for i := range all {
		functions := 1 + r.IntN(impl.MaxFunctions)
		for f := range functions {
			b := make([]impl.Step, r.IntN(impl.MaxBody+1))
			for at := range b {
				b[at] = exchangingStep(r, functions, f, at)
			}
			if f > 0 && r.IntN(4) == 0 {
				b = nil
			}
			all[i].Functions = append(all[i].Functions, b)
		}
	}
	return all
}

func exchangingStep(r *rand.Rand, functions int, f int, at int) impl.Step {
	reg := r.IntN(4)
	onward := min(f+1+r.IntN(functions), functions-1)
	switch r.IntN(20) {
	case 0, 1, 2:
		return set(reg, r.IntN(5)-2)
	case 3, 4, 5:
		return add(reg, r.IntN(4))
	case 6, 7:
		return say(reg)
	case 8, 9:
		return keep(reg)
	case 10, 11:
		return take(reg)
	case 12, 13:
		return jump(min(at+1+r.IntN(4), impl.MaxBody), reg)
	case 14, 15:
		if onward > f {
			return call(onward, reg)
		}
	case 16, 17:
		if onward > f {
			return later(onward, reg)
		}
	}
	return randomStep(r, functions)
}

func TestPromise9ExchangedStepsChangeNoRun(t *testing.T) {
	compared, spent, other := 0, 0, 0
	for _, p := range append(exchangingPrograms(90, 2500), randomPrograms(90, 1000)...) {
		for f, b := range p.Functions {
			for at := range len(b) - 1 {
				can, changed := checkExchange(t, p, f, at)
				for arg := -1; arg <= 2; arg++ {
					one, _ := impl.RunProgram(p, 0, arg, impl.MaxFuel)
					two, _ := impl.RunProgram(changed, 0, arg, impl.MaxFuel)
					switch {
					case can && one.Kind == stops:
						spent++
					case can:
						compared++
						if !sameOutcome(one, two) {
							t.Fatalf("another run of %s than of %s with %d", textByRule(changed), textByRule(p), arg)
						}
					case !sameOutcome(one, two):
						other++
					}
				}
			}
		}
	}
	if compared < 5000 || spent < 100 || other < 5000 {
		t.Error("the programs are too much alike", compared, spent, other)
	}
}

func TestPromise9EachTwoPlainStepsThatAreExchangedChangeNoRun(t *testing.T) {
	same, other := 0, 0
	for _, one := range everyPlain() {
		for _, two := range everyPlain() {
			// All that Steps can change is said: the registers, and then the shared number.
			p := program(
				body(set(3, 7), keep(3), call(1, 0), take(0), say(0)),
				body(set(1, 3), add(2, 0), one, two, say(0), say(1), say(2), say(3)),
			)
			can, changed := checkExchange(t, p, 1, 2)
			differs := false
			for arg := -2; arg <= 2; arg++ {
				before, _ := impl.RunProgram(p, 0, arg, impl.MaxFuel)
				after, _ := impl.RunProgram(changed, 0, arg, impl.MaxFuel)
				differs = differs || !sameOutcome(before, after)
			}
			if can && differs {
				t.Fatalf("other runs of %s than of %s", textByRule(changed), textByRule(p))
			}
			if can {
				same++
			}
			if differs {
				other++
			}
		}
	}
	if same < 500 || other < 500 {
		t.Error("the pairs are too much alike", same, other)
	}
}

func TestPromise9WhatCanBeExchanged(t *testing.T) {
	for name, one := range map[string]struct {
		body []impl.Step
		at   int
		can  bool
	}{
		"two registers are set":                {body(set(0, 1), set(1, 2)), 0, true},
		"one register is set twice":            {body(set(0, 1), set(0, 2)), 0, false},
		"the same Step twice":                  {body(set(0, 1), set(0, 1)), 0, false},
		"what is set is said":                  {body(set(1, 1), say(1)), 0, false},
		"what is said is set":                  {body(say(1), set(1, 1)), 0, false},
		"another one is said":                  {body(say(0), set(1, 1)), 0, true},
		"another one is set":                   {body(set(0, 1), say(3)), 0, true},
		"a register grows by itself":           {body(add(1, 1), set(1, 0)), 0, false},
		"a register grows by itself alone":     {body(add(1, 1), set(0, 0)), 0, true},
		"both grow by the same one":            {body(add(0, 1), add(2, 1)), 0, true},
		"one grows by the other one":           {body(add(0, 1), add(2, 0)), 0, false},
		"the other one grows by it":            {body(add(0, 2), add(2, 1)), 0, false},
		"the same one grows twice":             {body(add(0, 1), add(0, 2)), 0, false},
		"two are said":                         {body(say(0), say(1)), 0, false},
		"the same one is said twice":           {body(say(2), say(2)), 0, false},
		"what is said is kept":                 {body(say(2), keep(2)), 0, true},
		"what is kept is said":                 {body(keep(2), say(2)), 0, true},
		"two are kept":                         {body(keep(0), keep(1)), 0, false},
		"the same one is kept twice":           {body(keep(1), keep(1)), 0, false},
		"two are taken":                        {body(take(0), take(1)), 0, false},
		"one is kept and one taken":            {body(keep(0), take(1)), 0, false},
		"one is taken and one kept":            {body(take(0), keep(1)), 0, false},
		"what is kept grows":                   {body(keep(0), add(0, 1)), 0, false},
		"what another one grows by is kept":    {body(keep(0), add(1, 0)), 0, true},
		"what is set is kept":                  {body(set(3, 1), keep(3)), 0, false},
		"another one is kept":                  {body(set(3, 1), keep(0)), 0, true},
		"what is taken is added":               {body(take(0), add(1, 0)), 0, false},
		"what is taken grows":                  {body(add(0, 1), take(0)), 0, false},
		"what is taken is set":                 {body(take(2), set(2, 0)), 0, false},
		"what is taken is said":                {body(say(2), take(2)), 0, false},
		"another one is taken":                 {body(take(3), say(2)), 0, true},
		"a jump to the second one":             {body(set(0, 1), set(1, 1), jump(1, 2)), 0, false},
		"a jump to the first one":              {body(set(0, 1), set(1, 1), jump(0, 2)), 0, true},
		"a jump to the one behind":             {body(set(0, 1), set(1, 1), jump(2, 2)), 0, true},
		"a jump to the end":                    {body(set(0, 1), set(1, 1), jump(3, 2)), 0, true},
		"a jump ahead to the second one":       {body(jump(2, 3), set(0, 1), set(1, 1)), 1, false},
		"a jump ahead to the first one":        {body(jump(1, 3), set(0, 1), set(1, 1)), 1, true},
		"a jump ahead to the end":              {body(jump(3, 3), set(0, 1), set(1, 1)), 1, true},
		"a jump that is not reached":           {body(set(0, 1), set(1, 1), exit(), jump(1, 0)), 0, false},
		"the second one of two jumps":          {body(set(0, 1), set(1, 1), jump(0, 0), jump(1, 1)), 0, false},
		"the first one of two jumps":           {body(set(0, 1), set(1, 1), jump(1, 1), jump(0, 0)), 0, false},
		"a call of the function of the number": {body(set(0, 1), set(1, 1), call(1, 0), later(1, 0)), 0, true},
		"a set to the number":                  {body(set(0, 1), set(2, 1), set(1, 0)), 0, true},
		"the first of three":                   {body(set(0, 1), set(1, 1), set(0, 2)), 0, true},
		"the last two of three":                {body(set(0, 1), set(1, 1), set(0, 2)), 1, true},
		"the last two of eight":                {body(exit(), exit(), exit(), exit(), exit(), exit(), say(0), set(1, 1)), 6, true},
		"a jump to the last one of eight":      {body(jump(7, 0), exit(), exit(), exit(), exit(), exit(), say(0), set(1, 1)), 6, false},
		"a jump behind the last one of eight":  {body(jump(8, 0), exit(), exit(), exit(), exit(), exit(), say(0), set(1, 1)), 6, true},
	} {
		p := program(body(jump(0, 0), jump(1, 0), jump(2, 0), jump(3, 0)), one.body)
		if can, _ := checkExchange(t, p, 1, one.at); can != one.can {
			t.Error(name, can)
		}
	}
}

func TestPromise9StepsThatAreNotPlainAreNotExchanged(t *testing.T) {
	// None of them has a register in common with the plain one.
	for _, s := range []impl.Step{call(1, 0), later(1, 0), throw(0), save(0), give(0), outer(0), exit(), jump(3, 0)} {
		r := 1
		if s.Kind == impl.StepReturn {
			r = 2
		}
		for _, plain := range []impl.Step{set(r, 5), add(r, r), say(r), keep(r), take(r)} {
			for _, b := range [][]impl.Step{body(s, plain), body(plain, s), body(s, s)} {
				if can, _ := checkExchange(t, program(b, nil), 0, 0); can {
					t.Error("can be exchanged", b)
				}
			}
		}
	}
}

func TestPromise9WhatCannotBeExchangedChangesRuns(t *testing.T) {
	for name, one := range map[string]struct {
		body          []impl.Step
		at            int
		before, after []int
	}{
		"a jump to the second one": {body(jump(2, 0), set(1, 5), set(2, 6), say(1), say(2)), 1, []int{0, 6}, []int{5, 0}},
		"two are said":             {body(say(0), say(1)), 0, []int{1, 0}, []int{0, 1}},
		"what is set is said":      {body(set(0, 4), say(0)), 0, []int{4}, []int{1}},
		"kept and taken":           {body(keep(0), take(1), say(1)), 0, []int{1}, []int{0}},
		"kept twice":               {body(keep(0), keep(1), take(2), say(2)), 0, []int{0}, []int{1}},
		"grows by the other one":   {body(add(1, 0), add(0, 1), say(0), say(1)), 0, []int{2, 1}, []int{1, 1}},
	} {
		p := program(one.body)
		can, changed := checkExchange(t, p, 0, one.at)
		before, _ := impl.SaidNumbers(p, 0, 1, impl.MaxFuel)
		after, _ := impl.SaidNumbers(changed, 0, 1, impl.MaxFuel)
		if can || !slices.Equal(before, one.before) || !slices.Equal(after, one.after) {
			t.Error(name, can, before, after)
		}
	}
	// A run that is spent between the two may be another one.
	p := program(body(say(0), set(1, 5)))
	can, changed := checkExchange(t, p, 0, 0)
	before, _ := impl.SaidNumbers(p, 0, 4, 1)
	after, _ := impl.SaidNumbers(changed, 0, 4, 1)
	if !can || !slices.Equal(before, []int{4}) || len(after) != 0 {
		t.Error("spent between the two", can, before, after)
	}
}

// openByRule tells for each place of a body whether one comes to it from place 0, by all ways from
// any place to any other.
func openByRule(b []impl.Step) []bool {
	size := len(b)
	way := [9][9]bool{}
	for at, s := range b {
		way[at][at] = true
		if s.Kind != impl.StepPanic && s.Kind != impl.StepReturn && s.Kind != impl.StepExit {
			way[at][at+1] = true
		}
		if s.Kind == impl.StepJump {
			way[at][min(s.A, size)] = true
		}
	}
	for by := range size {
		for from := range size {
			for to := range size {
				way[from][to] = way[from][to] || way[from][by] && way[by][to]
			}
		}
	}
	return way[0][:size]
}

// droppedByRule returns a body without the Steps that are not open: a StepJump goes to a place that
// is less by as many as are dropped ahead of that.
func droppedByRule(b []impl.Step) []impl.Step {
	open := openByRule(b)
	left := []impl.Step{}
	for at, s := range b {
		if s.Kind == impl.StepJump {
			for _, is := range open[:min(s.A, len(b))] {
				if !is {
					s.A--
				}
			}
		}
		if open[at] {
			left = append(left, s)
		}
	}
	return left
}

// checkDropped drops the Steps of a function that are not open, and returns the Program without
// them.
func checkDropped(t *testing.T, p impl.Program, f int) impl.Program {
	t.Helper()
	want := copied(p)
	want.Functions[f] = droppedByRule(p.Functions[f])
	less, ok := impl.DropUnreached(p, f)
	if !ok || !sameProgram(less, want) || !impl.IsProgram(less) {
		t.Fatalf("dropped from %d of %s: %s %t", f, textByRule(p), textByRule(less), ok)
	}
	if slices.Contains(openByRule(less.Functions[f]), false) {
		t.Fatalf("not all of %d of %s is open", f, textByRule(less))
	}
	if again, ok := impl.DropUnreached(less, f); !ok || !sameProgram(again, less) {
		t.Fatalf("dropped again from %d of %s: %s", f, textByRule(less), textByRule(again))
	}
	return less
}

// checkSameOutcomes checks that two Programs run the same with the fuels, spent or not.
func checkSameOutcomes(t *testing.T, p impl.Program, q impl.Program, f int, arg int, fuels ...int) {
	t.Helper()
	for _, fuel := range fuels {
		one, ok := impl.RunProgram(p, f, arg, fuel)
		two, fine := impl.RunProgram(q, f, arg, fuel)
		if !ok || !fine || !sameOutcome(one, two) {
			t.Fatalf("another run of %s than of %s with %d and %d", textByRule(q), textByRule(p), arg, fuel)
		}
	}
}

func TestPromise9WithoutWhatIsNotReachedRunsAreTheSame(t *testing.T) {
	counts := map[int]int{}
	for _, p := range append(exchangingPrograms(91, 1500), randomPrograms(91, 2500)...) {
		for f, b := range p.Functions {
			less := checkDropped(t, p, f)
			counts[len(b)-len(less.Functions[f])]++
			for arg := -1; arg <= 1; arg++ {
				checkSameOutcomes(t, p, less, 0, arg, impl.MaxFuel, 7)
				checkSameOutcomes(t, p, less, f, arg, impl.MaxFuel, 3)
			}
		}
	}
	for dropped := range 7 {
		if counts[dropped] < 50 {
			t.Error("the programs are too much alike", counts)
		}
	}
}

func TestPromise9EachSmallBodyWithoutWhatIsNotReached(t *testing.T) {
	choice := body(add(0, 0), say(0), give(0), throw(0), exit(), jump(0, 3), jump(1, 0), jump(2, 2), jump(3, 0), jump(4, 3), jump(8, 0))
	for _, b := range bodiesOf(choice, 4) {
		p := program(b)
		less := checkDropped(t, p, 0)
		checkSameOutcomes(t, p, less, 0, 1, 10)
		checkSameOutcomes(t, p, less, 0, 0, 10)
	}
}

func TestPromise9DropUnreached(t *testing.T) {
	for name, one := range map[string]struct {
		text, want string
	}{
		"no Steps":                              {"", ""},
		"nothing can be dropped":                {"3.0.0 11.3.1 3.1.0 6.2.0", "3.0.0 11.3.1 3.1.0 6.2.0"},
		"behind a return":                       {"8.0.0 3.0.0 3.1.0", "8.0.0"},
		"behind a panic":                        {"1.0.1 6.0.0 3.1.0", "1.0.1 6.0.0"},
		"behind an exit":                        {"10.0.0 10.0.0", "10.0.0"},
		"behind what goes on":                   {"1.0.1 2.0.0 3.0.0 4.0.1 5.0.1 7.0.0 9.0.0 12.0.0", "1.0.1 2.0.0 3.0.0 4.0.1 5.0.1 7.0.0 9.0.0 12.0.0"},
		"behind what is taken":                  {"13.0.0 3.0.0", "13.0.0 3.0.0"},
		"the last Step alone":                   {"3.0.0 8.0.0 3.0.0", "3.0.0 8.0.0"},
		"the last but one":                      {"11.3.0 8.0.0 3.0.0 3.1.0", "11.2.0 8.0.0 3.1.0"},
		"a jump to the end":                     {"11.3.0 8.0.0 3.0.0", "11.2.0 8.0.0"},
		"a jump behind the end":                 {"11.8.0 8.0.0 3.0.0", "11.7.0 8.0.0"},
		"a jump over what is dropped":           {"11.4.0 10.0.0 3.1.0 3.2.0 3.0.0", "11.2.0 10.0.0 3.0.0"},
		"a jump back":                           {"3.0.0 11.0.0 10.0.0 11.0.0 11.1.0", "3.0.0 11.0.0 10.0.0"},
		"a jump back over what is dropped":      {"11.4.0 10.0.0 3.0.0 3.0.0 11.1.0 8.0.0", "11.2.0 10.0.0 11.1.0 8.0.0"},
		"a jump back to what is not yet open":   {"11.4.0 10.0.0 3.2.0 8.0.0 11.2.0 8.1.0", "11.4.0 10.0.0 3.2.0 8.0.0 11.2.0 8.1.0"},
		"a jump that is not reached":            {"10.0.0 11.0.0 11.1.0 11.4.0 3.0.0", "10.0.0"},
		"a loop that is not reached":            {"11.4.0 8.0.0 3.0.0 11.2.0 3.1.0", "11.2.0 8.0.0 3.1.0"},
		"a jump to the next Step":               {"11.1.0 11.2.0 8.0.0 11.1.0", "11.1.0 11.2.0 8.0.0"},
		"a jump to itself":                      {"11.0.0 3.0.0", "11.0.0 3.0.0"},
		"what is dropped on both sides":         {"11.2.0 11.5.0 10.0.0 3.0.0 3.1.0 8.0.0 3.2.0 3.3.0", "11.2.0 11.3.0 10.0.0 8.0.0"},
		"all but the first of MaxBody Steps":    {"6.0.0 11.8.0 11.7.0 11.6.0 11.0.0 11.1.0 3.0.0 3.0.0", "6.0.0"},
		"a jump with a register that is always": {"1.1.0 11.4.1 8.0.0 3.0.0 3.1.0", "1.1.0 11.3.1 8.0.0 3.1.0"},
	} {
		p, ok := impl.ParseProgram("11.8.0 8.0.0 3.0.0/" + one.text)
		if !ok {
			t.Fatal("no program", name)
		}
		// Other functions stay as they are.
		if less := checkDropped(t, p, 1); textByRule(less) != "11.8.0 8.0.0 3.0.0/"+one.want {
			t.Error(name, textByRule(less))
		}
	}
}

// saidBy returns the numbers that are said in a Trace.
func saidBy(trace []impl.Event) []int {
	said := []int{}
	for _, e := range trace {
		if e.Kind == impl.EventSay {
			said = append(said, e.Value)
		}
	}
	return said
}

// alikeByRule tells as chapter 9 says it whether two Outcomes are alike.
func alikeByRule(one impl.Outcome, two impl.Outcome) bool {
	return one.Kind == two.Kind && one.Value == two.Value && slices.Equal(saidBy(one.Trace), saidBy(two.Trace))
}

// checkDifference asks what chapter 9 tells of the runs of two Programs, in both orders, and
// returns the first difference, and whether there is one.
func checkDifference(t *testing.T, p impl.Program, q impl.Program, f int, low int, high int, fuel int) (int, bool) {
	t.Helper()
	want, differ := 0, false
	for arg := low; arg <= high && !differ; arg++ {
		one, _ := modelOutcome(p, f, arg, fuel)
		two, _ := modelOutcome(q, f, arg, fuel)
		if !alikeByRule(one, two) {
			want, differ = arg, true
		}
	}
	for _, both := range [][2]impl.Program{{p, q}, {q, p}} {
		same, ok := impl.SameRuns(both[0], both[1], f, low, high, fuel)
		first, not := impl.FirstDifference(both[0], both[1], f, low, high, fuel)
		if !ok || same == differ || not != differ || first != want {
			t.Fatalf("runs of %s and %s from %d to %d with %d: %t %t, %d %t", textByRule(both[0]), textByRule(both[1]), low, high, fuel, same, ok, first, not)
		}
	}
	return want, differ
}

// changedStep returns the Program with another Step at some place of it.
func changedStep(r *rand.Rand, p impl.Program) impl.Program {
	q := copied(p)
	b := q.Functions[r.IntN(len(q.Functions))]
	if len(b) > 0 {
		b[r.IntN(len(b))] = exchangingStep(r, len(q.Functions), 0, 0)
	}
	return q
}

func TestPromise9DifferencesAreThoseOfTheModel(t *testing.T) {
	r := rand.New(rand.NewPCG(92, 1))
	none, first, behind := 0, 0, 0
	programs := append(exchangingPrograms(92, 1000), decidingPrograms(92, 2000)...)
	for i, p := range append(programs, randomPrograms(92, 1000)...) {
		q := changedStep(r, p)
		low := []int{-3, -1, 0, edgeNumbers[i%len(edgeNumbers)] / 2}[r.IntN(4)]
		fuel := []int{impl.MaxFuel, impl.MaxFuel, r.IntN(impl.MaxFuel), r.IntN(12)}[r.IntN(4)]
		switch arg, differ := checkDifference(t, p, q, 0, low, low+r.IntN(7), fuel); {
		case !differ:
			none++
		case arg == low:
			first++
		default:
			behind++
		}
		if _, differ := checkDifference(t, p, p, 0, low, low, fuel); differ {
			t.Fatal("differs from itself", textByRule(p))
		}
	}
	if none < 500 || first < 500 || behind < 100 {
		t.Error("the programs are too much alike", none, first, behind)
	}
}

func TestPromise9WhatIsAlike(t *testing.T) {
	for name, one := range map[string]struct {
		p, q string
		same bool
	}{
		"the same Program":                      {"3.0.0 8.0.0", "3.0.0 8.0.0", true},
		"other results":                         {"8.0.0", "8.1.0", false},
		"a result and a panic with it":          {"8.0.0", "6.0.0", false},
		"a panic and an exit":                   {"1.0.0 6.0.0", "10.0.0", false},
		"a result of 0 and an exit":             {"8.1.0", "10.0.0", false},
		"panics with other values":              {"6.0.0", "6.1.0", false},
		"other numbers are said":                {"3.0.0", "3.1.0", false},
		"more is said":                          {"3.0.0", "3.0.0 3.0.0", false},
		"nothing is said":                       {"3.1.0", "", false},
		"in another order":                      {"3.0.0 3.1.0", "3.1.0 3.0.0", false},
		"more Steps":                            {"3.0.0", "1.1.5 3.0.0 1.1.0", true},
		"said by another function":              {"3.0.0 1.1.0/", "4.1.0/3.0.0", true},
		"said by a deferred call":               {"3.0.0", "5.1.0/3.0.0", true},
		"other calls and panics":                {"", "5.1.0 6.0.0/7.0.0", true},
		"an exit of a call":                     {"10.0.0", "4.1.0/10.0.0", true},
		"a panic that is replaced by the same":  {"6.0.0", "5.1.0 6.1.0/6.0.0", true},
		"a spent run and one that returns":      {"1.1.1 11.1.1", "", false},
		"two spent runs":                        {"1.1.1 11.1.1", "4.0.0", true},
		"two spent runs of which one says":      {"1.1.1 11.1.1", "3.0.0 4.0.0", false},
		"two spent runs that say the same":      {"3.0.0 1.1.1 11.2.1", "3.0.0 4.1.0/4.1.0", true},
		"two spent runs that say other numbers": {"3.0.0 1.1.1 11.2.1", "3.0.0 4.0.0", false},
		"functions that are not called":         {"3.0.0/3.0.0", "3.0.0/3.1.0/4.2.0", true},
	} {
		p, ok := impl.ParseProgram(one.p)
		q, fine := impl.ParseProgram(one.q)
		if !ok || !fine {
			t.Fatal("no program", name)
		}
		first, differ := checkDifference(t, p, q, 0, 7, 7, impl.MaxFuel)
		if differ == one.same || differ && first != 7 {
			t.Error(name, first, differ)
		}
	}
	// The first run is spent with a fuel of 2, the other one with a fuel of 1 only.
	p, q := program(body(set(1, 0), set(1, 0), set(1, 0))), program(body(set(1, 0), set(1, 0)))
	for fuel, same := range []bool{true, true, false, true, true} {
		if _, differ := checkDifference(t, p, q, 0, -1, 1, fuel); differ == same {
			t.Error("with the fuel", fuel, differ)
		}
	}
}

// saysFrom returns a Program that says its argument if that is at least a number.
func saysFrom(least int) impl.Program {
	return program(body(set(2, 1-least), add(2, 0), jump(4, 2), give(1), say(0)))
}

func TestPromise9Ranges(t *testing.T) {
	silent, loud := program(body(give(1))), program(body(say(0)))
	for _, one := range []struct {
		name      string
		p, q      impl.Program
		low, high int
		want      int
		differ    bool
	}{
		{"all", silent, loud, -50, 50, -50, true},
		{"all of the MaxRange + 1 least", silent, loud, -32768, -32668, -32768, true},
		{"all of the MaxRange + 1 greatest", silent, loud, 32667, 32767, 32667, true},
		{"the least alone", silent, loud, -32768, -32768, -32768, true},
		{"the greatest alone", silent, loud, 32767, 32767, 32767, true},
		{"0 alone", silent, loud, 0, 0, 0, true},
		{"none", loud, loud, -50, 50, 0, false},
		{"none of the least", loud, loud, -32768, -32668, 0, false},
		{"none of the greatest", loud, loud, 32667, 32767, 0, false},
		{"none of one", loud, loud, 5, 5, 0, false},
		{"the last one", saysFrom(50), silent, -50, 50, 50, true},
		{"the last one of few", saysFrom(3), silent, 1, 3, 3, true},
		{"none ahead of it", saysFrom(3), silent, -98, 2, 0, false},
		{"from one on", saysFrom(3), silent, 0, 9, 3, true},
		{"one between", saysFrom(3), saysFrom(4), -10, 10, 3, true},
		{"the first one alone", saysFrom(3), saysFrom(4), 3, 103, 3, true},
		{"the last one alone", saysFrom(3), saysFrom(4), -97, 3, 3, true},
		{"none behind it", saysFrom(3), saysFrom(4), 4, 104, 0, false},
		{"0 is the first", saysFrom(0), silent, -5, 5, 0, true},
	} {
		if got, differ := checkDifference(t, one.p, one.q, 0, one.low, one.high, impl.MaxFuel); got != one.want || differ != one.differ {
			t.Error(one.name, got, differ)
		}
	}
}

// renumberedByRule returns a body that calls and defers functions by their new numbers.
func renumberedByRule(b []impl.Step, to []int) []impl.Step {
	with := []impl.Step{}
	for _, s := range b {
		if s.Kind == impl.StepCall || s.Kind == impl.StepDefer {
			s.A = to[s.A]
		}
		with = append(with, s)
	}
	return with
}

// checkSameButNumbers checks that a function of a Program runs as that of its new number in another
// one, but for the functions of the Events.
func checkSameButNumbers(t *testing.T, p impl.Program, q impl.Program, to []int, f int, arg int, fuel int) {
	t.Helper()
	want, ok := impl.RunProgram(p, f, arg, fuel)
	got, fine := impl.RunProgram(q, to[f], arg, fuel)
	for i, e := range want.Trace {
		want.Trace[i].Function = to[e.Function]
	}
	if !ok || !fine || !sameOutcome(got, want) {
		t.Fatalf("another run of %d of %s than of %d of %s with %d and %d", to[f], textByRule(q), f, textByRule(p), arg, fuel)
	}
}

func TestPromise9RenumberedFunctionsRunAsBefore(t *testing.T) {
	r := rand.New(rand.NewPCG(93, 1))
	moved := 0
	for _, p := range append(exchangingPrograms(93, 1500), randomPrograms(93, 1000)...) {
		to := r.Perm(len(p.Functions))
		want := copied(p)
		for f, b := range p.Functions {
			want.Functions[to[f]] = renumberedByRule(b, to)
		}
		q, ok := impl.RenumberFunctions(p, to)
		if !ok || !sameProgram(q, want) || !impl.IsProgram(q) {
			t.Fatalf("%s by %v: %s %t", textByRule(p), to, textByRule(q), ok)
		}
		back := make([]int, len(to))
		for f, n := range to {
			back[n] = f
			if n != f {
				moved++
			}
		}
		if again, ok := impl.RenumberFunctions(q, back); !ok || !sameProgram(again, p) {
			t.Fatalf("back from %s by %v: %s %t", textByRule(q), back, textByRule(again), ok)
		}
		same := numbers(0, len(to)-1)
		if again, ok := impl.RenumberFunctions(p, same); !ok || !sameProgram(again, p) {
			t.Fatalf("%s by the same numbers: %s %t", textByRule(p), textByRule(again), ok)
		}
		for f := range p.Functions {
			checkSameButNumbers(t, p, q, to, f, f-1, impl.MaxFuel)
			checkSameButNumbers(t, p, q, to, f, f-1, 5)
		}
	}
	if moved < 1000 {
		t.Error("too few functions have other numbers", moved)
	}
}

func TestPromise9RenumberFunctions(t *testing.T) {
	for _, one := range []struct {
		text string
		to   []int
		want string
	}{
		{"", []int{0}, ""},
		{"4.0.1 5.0.2", []int{0}, "4.0.1 5.0.2"},
		{"4.1.0 3.1.0/", []int{0, 1}, "4.1.0 3.1.0/"},
		{"4.1.0 3.1.0/", []int{1, 0}, "/4.0.0 3.1.0"},
		{"3.0.0/3.1.0/3.2.0", []int{1, 2, 0}, "3.2.0/3.0.0/3.1.0"},
		{"4.1.0 5.2.3/4.0.0/5.2.0", []int{1, 2, 0}, "5.0.0/4.2.0 5.0.3/4.1.0"},
		{"4.1.0 5.2.3/4.0.0/5.2.0", []int{2, 0, 1}, "4.2.0/5.1.0/4.0.0 5.1.3"},
		// Other Steps with the same numbers stay as they are.
		{"1.1.0 2.1.0 3.1.0 6.1.0 7.1.0 8.1.0 9.1.0/10.0.0 11.1.0 12.1.0 13.1.0", []int{1, 0}, "10.0.0 11.1.0 12.1.0 13.1.0/1.1.0 2.1.0 3.1.0 6.1.0 7.1.0 8.1.0 9.1.0"},
		{"/////5.5.0 4.0.3", []int{5, 4, 3, 2, 1, 0}, "5.0.0 4.5.3/////"},
	} {
		p, _ := impl.ParseProgram(one.text)
		if q, ok := impl.RenumberFunctions(p, one.to); !ok || textByRule(q) != one.want {
			t.Error(one.text, one.to, textByRule(q), ok)
		}
	}
}

func TestPromise9NumbersThatAreNoneOfEachFunction(t *testing.T) {
	three := program(body(call(1, 0)), body(later(2, 0)), nil)
	for _, to := range listsOf([]int{-1, 0, 1, 2, 3}, 4) {
		sorted := slices.Sorted(slices.Values(to))
		q, ok := impl.RenumberFunctions(three, to)
		if ok != slices.Equal(sorted, []int{0, 1, 2}) || !ok && len(q.Functions) != 0 {
			t.Error("three functions by", to, ok, textByRule(q))
		}
	}
	for _, to := range [][]int{nil, {}, {0, 1}, {0, 1, 2, 3}, {0, 0, 0}, {0, 2, 2}, {1, 2, 3}, {0, 1, math.MinInt}, {0, 1, math.MaxInt}, {1 << 32, 1, 2},
		{0, 1, 1<<32 + 2}, {-1, 0, 1}, {2, 1, -1 << 32}, make([]int, 1<<20), numbers(0, 1<<16)} {
		if q, ok := impl.RenumberFunctions(three, to); ok || len(q.Functions) != 0 {
			t.Errorf("three functions by %d numbers: %s", len(to), textByRule(q))
		}
	}
	for functions := 1; functions <= impl.MaxFunctions; functions++ {
		p := program(make([][]impl.Step, functions)...)
		for size := range 9 {
			if _, ok := impl.RenumberFunctions(p, numbers(0, size-1)); ok != (size == functions) {
				t.Error(functions, "functions by", size, "numbers", ok)
			}
		}
	}
}

// reachedByRule tells for each function whether one comes to it from another one, by all ways from
// any function to any other.
func reachedByRule(p impl.Program, f int) []bool {
	way := [6][6]bool{}
	for g, b := range p.Functions {
		way[g][g] = true
		for _, s := range b {
			if s.Kind == impl.StepCall || s.Kind == impl.StepDefer {
				way[g][s.A] = true
			}
		}
	}
	for by := range 6 {
		for from := range 6 {
			for to := range 6 {
				way[from][to] = way[from][to] || way[from][by] && way[by][to]
			}
		}
	}
	return way[f][:len(p.Functions)]
}

// checkKept keeps the functions that are reached from one, and returns their Program and the new
// numbers of all functions, which are -1 for those that are not reached.
func checkKept(t *testing.T, p impl.Program, f int) (impl.Program, []int) {
	t.Helper()
	kept := 0
	to := make([]int, len(p.Functions))
	for g, reached := range reachedByRule(p, f) {
		to[g] = -1
		if reached {
			to[g] = kept
			kept++
		}
	}
	want := impl.Program{}
	for g, b := range p.Functions {
		if to[g] >= 0 {
			want.Functions = append(want.Functions, renumberedByRule(b, to))
		}
	}
	q, number, ok := impl.KeepReached(p, f)
	if !ok || number != to[f] || !sameProgram(q, want) || !impl.IsProgram(q) {
		t.Fatalf("kept from %d of %s: %s, %d, %t", f, textByRule(p), textByRule(q), number, ok)
	}
	if again, same, ok := impl.KeepReached(q, number); !ok || same != number || !sameProgram(again, q) {
		t.Fatalf("kept again from %d of %s: %s, %d, %t", number, textByRule(q), textByRule(again), same, ok)
	}
	return q, to
}

func TestPromise9KeptFunctionsRunAsBefore(t *testing.T) {
	counts := map[int]int{}
	for _, p := range append(exchangingPrograms(94, 1500), randomPrograms(94, 1000)...) {
		for f := range p.Functions {
			q, to := checkKept(t, p, f)
			counts[len(p.Functions)-len(q.Functions)]++
			for g := range p.Functions {
				if to[g] >= 0 {
					checkSameButNumbers(t, p, q, to, g, 1, impl.MaxFuel)
					checkSameButNumbers(t, p, q, to, g, -1, 6)
				}
			}
		}
	}
	for left := range impl.MaxFunctions {
		if counts[left] < 50 {
			t.Error("the programs are too much alike", counts)
		}
	}
}

func TestPromise9KeepReached(t *testing.T) {
	for name, one := range map[string]struct {
		text   string
		f      int
		want   string
		number int
	}{
		"a function without Steps":           {"", 0, "", 0},
		"that one alone":                     {"3.0.0/3.1.0/3.2.0", 1, "3.1.0", 0},
		"that one alone without Steps":       {"4.1.0//4.0.0", 1, "", 0},
		"all are reached":                    {"4.1.0/4.2.0/4.0.0", 0, "4.1.0/4.2.0/4.0.0", 0},
		"all are reached from the last one":  {"4.1.0/4.2.0/4.0.0", 2, "4.1.0/4.2.0/4.0.0", 2},
		"by deferred calls alone":            {"3.0.0/5.3.1/3.0.0/3.1.0", 1, "5.1.1/3.1.0", 0},
		"by a deferred call of a called one": {"3.0.0/5.0.1/3.2.0/4.1.2", 3, "3.0.0/5.0.1/4.1.2", 2},
		"itself":                             {"3.0.0/4.1.0 5.1.1/3.0.0", 1, "4.0.0 5.0.1", 0},
		"itself by another one":              {"3.0.0/4.3.0/4.1.0/5.1.0", 1, "4.1.0/5.0.0", 0},
		"a function ahead of it":             {"3.0.0/3.1.0//4.1.0", 3, "3.1.0/4.0.0", 1},
		"by Steps that are not reached":      {"8.0.0 4.2.0/3.1.0/3.2.0", 0, "8.0.0 4.1.0/3.2.0", 0},
		"functions without Steps":            {"4.2.0 5.3.0///", 0, "4.1.0 5.2.0//", 0},
		"numbers that are no functions":      {"1.2.1 2.2.0 3.2.0 7.2.0 8.2.0/3.1.0/3.2.0", 0, "1.2.1 2.2.0 3.2.0 7.2.0 8.2.0", 0},
		"the same one by more Steps":         {"5.2.0 4.2.1 4.2.2//5.2.3", 0, "5.1.0 4.1.1 4.1.2/5.1.3", 0},
		"the last of MaxFunctions":           {"4.5.0/4.0.0/4.1.0/4.2.0/4.3.0/4.5.0", 5, "4.0.0", 0},
		"the first of MaxFunctions":          {"4.5.0/4.0.0/4.1.0/4.2.0/4.3.0/4.5.0", 4, "4.5.0/4.0.0/4.1.0/4.2.0/4.3.0/4.5.0", 4},
	} {
		p, ok := impl.ParseProgram(one.text)
		if !ok {
			t.Fatal("no program", name)
		}
		checkKept(t, p, one.f)
		if q, number, _ := impl.KeepReached(p, one.f); textByRule(q) != one.want || number != one.number {
			t.Error(name, textByRule(q), number)
		}
	}
}

// checkInlined takes in the functions without Steps that a function calls, and returns the Program
// behind it, and whether it is another one.
func checkInlined(t *testing.T, p impl.Program, f int) (impl.Program, bool) {
	t.Helper()
	want := copied(p)
	for at, s := range p.Functions[f] {
		if s.Kind == impl.StepCall && len(p.Functions[s.A]) == 0 {
			want.Functions[f][at] = set(2, 0)
		}
	}
	q, ok := impl.InlineEmpty(p, f)
	if !ok || !sameProgram(q, want) || !impl.IsProgram(q) {
		t.Fatalf("inlined in %d of %s: %s %t", f, textByRule(p), textByRule(q), ok)
	}
	if again, ok := impl.InlineEmpty(q, f); !ok || !sameProgram(again, q) {
		t.Fatalf("inlined again in %d of %s: %s %t", f, textByRule(q), textByRule(again), ok)
	}
	return q, !sameProgram(p, q)
}

func TestPromise9InlinedFunctionsRunAlike(t *testing.T) {
	changed, alike, spent := 0, 0, 0
	programs := append(exchangingPrograms(95, 2500), emptied(randomPrograms(95, 2500))...)
	for _, p := range append(programs, emptied(decidingPrograms(95, 1000))...) {
		for f := range p.Functions {
			q, other := checkInlined(t, p, f)
			if !other {
				continue
			}
			changed++
			for arg := -1; arg <= 1; arg++ {
				for _, fuel := range []int{impl.MaxFuel, 9, 4} {
					one, _ := impl.RunProgram(p, 0, arg, fuel)
					two, _ := impl.RunProgram(q, 0, arg, fuel)
					if one.Kind == stops {
						spent++
						continue
					}
					alike++
					if !alikeByRule(one, two) || one.Spent != two.Spent {
						t.Fatalf("another run of %s than of %s with %d", textByRule(q), textByRule(p), arg)
					}
				}
			}
		}
	}
	if changed < 1000 || alike < 5000 || spent < 500 {
		t.Error("the programs are too much alike", changed, alike, spent)
	}
}

// emptied takes all Steps out of the last function of each Program.
func emptied(programs []impl.Program) []impl.Program {
	for _, p := range programs {
		p.Functions[len(p.Functions)-1] = nil
	}
	return programs
}

func TestPromise9InlineEmpty(t *testing.T) {
	for name, one := range map[string]struct {
		text string
		f    int
		want string
	}{
		"a call":                               {"4.1.0 3.2.0/", 0, "1.2.0 3.2.0/"},
		"a call with any register":             {"4.1.0 4.1.1 4.1.2 4.1.3/", 0, "1.2.0 1.2.0 1.2.0 1.2.0/"},
		"a deferred call":                      {"5.1.0 3.2.0/", 0, "5.1.0 3.2.0/"},
		"calls of functions with Steps":        {"4.1.0 4.2.0/3.0.0/10.0.0", 0, "4.1.0 4.2.0/3.0.0/10.0.0"},
		"calls of both":                        {"4.1.0 4.2.0 4.3.1 5.2.0/3.0.0//", 0, "4.1.0 1.2.0 1.2.0 5.2.0/3.0.0//"},
		"a function without Steps":             {"4.1.0/", 1, "4.1.0/"},
		"that is the only one":                 {"", 0, ""},
		"itself":                               {"4.0.0 4.1.0/", 0, "4.0.0 1.2.0/"},
		"calls of another function":            {"4.2.0/4.2.0/", 0, "1.2.0/4.2.0/"},
		"calls of the last function":           {"/4.0.2/4.0.3", 2, "/4.0.2/1.2.0"},
		"what is not reached":                  {"10.0.0 4.1.0/", 0, "10.0.0 1.2.0/"},
		"jumps stay":                           {"11.2.0 4.1.0 11.8.0 4.1.0/", 0, "11.2.0 1.2.0 11.8.0 1.2.0/"},
		"a function that calls it without end": {"4.1.0/4.2.0 4.1.0/", 1, "4.1.0/1.2.0 4.1.0/"},
		"a function of none but such calls":    {"4.1.0/4.2.0/", 0, "4.1.0/4.2.0/"},
	} {
		p, ok := impl.ParseProgram(one.text)
		if !ok {
			t.Fatal("no program", name)
		}
		if q, _ := checkInlined(t, p, one.f); textByRule(q) != one.want {
			t.Error(name, textByRule(q))
		}
	}
}

func TestPromise9TheResultOfAnEmptyFunctionIsZero(t *testing.T) {
	p := program(body(set(2, 5), call(1, 0), say(2), give(2)), nil)
	q, _ := checkInlined(t, p, 0)
	for fuel, kind := range map[int]int{3: stops, 4: back, impl.MaxFuel: back} {
		one, _ := impl.RunProgram(p, 0, 7, fuel)
		two, _ := impl.RunProgram(q, 0, 7, fuel)
		if one.Kind != kind || two.Kind != kind || one.Value != 0 || two.Value != 0 || !slices.Equal(saidBy(two.Trace), []int{0}) || len(one.Trace) != len(two.Trace)+2 {
			t.Error("with the fuel", fuel, one, two)
		}
	}
	// Without the call, one that would be too deep is not made: this run is spent, and behind it not.
	deep := program(body(call(1, 0), jump(3, 0), give(1), set(3, -1), add(0, 3), call(0, 0)), nil)
	shallow, _ := checkInlined(t, deep, 0)
	for arg, kinds := range map[int][2]int{6: {back, back}, 7: {stops, back}, 8: {stops, stops}} {
		one, _ := impl.RunProgram(deep, 0, arg, impl.MaxFuel)
		two, _ := impl.RunProgram(shallow, 0, arg, impl.MaxFuel)
		if one.Kind != kinds[0] || two.Kind != kinds[1] {
			t.Error("so deep", arg, one.Kind, two.Kind)
		}
	}
}

// placeAnswers asks all functions of chapter 9 that need a place, and returns whether they do not
// fail, and how much they tell.
func placeAnswers(p impl.Program, f int, at int) ([4]bool, [4]int) {
	reads, one := impl.ReadsOf(p, f, at)
	writes, two := impl.WritesOf(p, f, at)
	can, three := impl.CanExchange(p, f, at)
	changed, four := impl.ExchangeSteps(p, f, at)
	size := [4]int{len(reads), len(writes), 0, len(changed.Functions)}
	if can {
		size[2] = 1
	}
	return [4]bool{one, two, three, four}, size
}

// rewriteAnswers asks all functions of chapter 9 that need a function alone, or a list of numbers.
func rewriteAnswers(p impl.Program, f int, to []int) ([4]bool, [5]int) {
	less, one := impl.DropUnreached(p, f)
	kept, number, two := impl.KeepReached(p, f)
	inlined, three := impl.InlineEmpty(p, f)
	renumbered, four := impl.RenumberFunctions(p, to)
	return [4]bool{one, two, three, four}, [5]int{len(less.Functions), len(kept.Functions), number, len(inlined.Functions), len(renumbered.Functions)}
}

// rangeAnswers asks all functions of chapter 9 that need two Programs.
func rangeAnswers(p impl.Program, q impl.Program, f int, low int, high int, fuel int) ([3]bool, int) {
	same, one := impl.SameRuns(p, q, f, low, high, fuel)
	first, two := impl.FirstDifference(p, q, f, low, high, fuel)
	return [3]bool{same, one, two}, first
}

// farNumbers are those about which it turns whether there is such a function or a place, and far
// ones.
var farNumbers = []int{math.MinInt, math.MinInt + 1, -1 << 32, -2, -1, 0, 1, 2, 3, 5, 6, 7, 8, 9, 1 << 32, 1<<32 + 1, math.MaxInt - 1, math.MaxInt}

func TestPromise9PlacesAndFunctionsRefuseOthers(t *testing.T) {
	full := body(set(0, 1), set(1, 1), set(0, 1), set(1, 1), set(0, 1), set(1, 1), set(0, 1), set(1, 1))
	p := program(body(add(0, 1), add(2, 3), say(1)), nil, full, body(add(2, 1)))
	for _, f := range farNumbers {
		size, function := 0, 0 <= f && f < 4
		if function {
			size = len(p.Functions[f])
		}
		for _, at := range farNumbers {
			place, pair := 0 <= at && at < size, 0 <= at && at < size-1
			want := [4]int{}
			if place {
				s := p.Functions[f][at]
				want = [4]int{len(registersByRule(s, readLetters)), len(registersByRule(s, writtenLetters))}
			}
			if pair {
				want[2], want[3] = 1, 4
			}
			if ok, tells := placeAnswers(p, f, at); ok != [4]bool{place, place, pair, pair} || tells != want {
				t.Error("at", f, at, ok, tells, want)
			}
		}
		want := [5]int{4: 4}
		if function {
			want = [5]int{4, 1, 0, 4, 4}
		}
		if ok, tells := rewriteAnswers(p, f, []int{3, 1, 0, 2}); ok != [4]bool{function, function, function, true} || tells != want {
			t.Error("of", f, ok, tells)
		}
	}
}

func TestPromise9RangesRefuseOthers(t *testing.T) {
	p, q := program(body(say(0)), nil), program(body(say(1)), nil, nil)
	for _, low := range rangeEnds {
		for _, high := range rangeEnds {
			for _, f := range []int{math.MinInt, -1, 0, 1, 2, 3, math.MaxInt} {
				for _, fuel := range []int{math.MinInt, -1, 0, 1, 200, 201, 1 << 32, math.MaxInt} {
					// The function 2 is one of q alone.
					valid := validRange(low, high) && (f == 0 || f == 1) && 0 <= fuel && fuel <= 200
					differ, want := valid && f == 0 && fuel > 0 && (low != 0 || high != 0), 0
					if differ {
						want = low
					}
					if low == 0 && differ {
						want = 1
					}
					for _, both := range [][2]impl.Program{{p, q}, {q, p}} {
						if ok, first := rangeAnswers(both[0], both[1], f, low, high, fuel); ok != [3]bool{valid && !differ, valid, differ} || first != want {
							t.Fatal("range", f, low, high, fuel, ok, first)
						}
					}
				}
			}
		}
	}
}

func TestPromise13WhatIsNoProgramIsNotExchanged(t *testing.T) {
	valid := program(body(say(0), set(1, 1)), nil, nil, nil, nil, nil)
	for i, p := range invalidPrograms() {
		for _, f := range farNumbers {
			for _, at := range []int{math.MinInt, -1, 0, 1, math.MaxInt} {
				if ok, tells := placeAnswers(p, f, at); ok != [4]bool{} || tells != [4]int{} {
					t.Error("a place of no program", i, f, at, ok, tells)
				}
			}
			for _, to := range [][]int{nil, {0}, {0, 1}, {1, 0}, {6, 5, 4, 3, 2, 1, 0}} {
				if ok, tells := rewriteAnswers(p, f, to); ok != [4]bool{} || tells != [5]int{} {
					t.Error("rewritten from no program", i, f, to, ok, tells)
				}
			}
			for _, both := range [][2]impl.Program{{p, valid}, {valid, p}, {p, p}} {
				if ok, first := rangeAnswers(both[0], both[1], f, 0, 1, 9); ok != [3]bool{} || first != 0 {
					t.Error("runs of no program", i, f, ok, first)
				}
			}
		}
	}
}

func TestPromise13ExchangesModifyNothing(t *testing.T) {
	programs := append(exchangingPrograms(96, 200), emptied(randomPrograms(96, 100))...)
	for _, p := range append(programs, invalidPrograms()[:22]...) {
		checkUnmodified(t, p, func(given impl.Program) {
			to := append(numbers(0, len(p.Functions)-1), -5, -6)
			slices.Reverse(to[:len(p.Functions)])
			before := slices.Clone(to)
			for f := -1; f <= len(p.Functions); f++ {
				for at := -1; at <= impl.MaxBody; at++ {
					one, first := placeAnswers(given, f, at)
					two, second := placeAnswers(given, f, at)
					if one != two || first != second {
						t.Fatalf("other answers of %s", textByRule(p))
					}
				}
				one, first := rewriteAnswers(given, f, to[:len(p.Functions)])
				two, second := rewriteAnswers(given, f, to[:len(p.Functions)])
				three, third := rangeAnswers(given, p, f, -1, 1, 60)
				four, fourth := rangeAnswers(given, p, f, -1, 1, 60)
				if one != two || first != second || three != four || third != fourth {
					t.Fatalf("other answers of %s", textByRule(p))
				}
				rangeAnswers(p, given, f, -1, 1, 60)
			}
			if !slices.Equal(to, before) {
				t.Fatal("modified the numbers", to)
			}
		})
	}
}

func TestPromise13ExchangedProgramsAreApart(t *testing.T) {
	p := program(body(say(0), jump(1, 0), later(1, 2), call(3, 0), give(0), exit()), body(save(0)), body(exit(), call(0, 1)), nil)
	kept := func(f int) func() (impl.Program, bool) {
		return func() (impl.Program, bool) {
			q, _, ok := impl.KeepReached(p, f)
			return q, ok
		}
	}
	checkProgramsApart(t, p,
		func() (impl.Program, bool) { return impl.ExchangeSteps(p, 0, 0) },
		func() (impl.Program, bool) { return impl.ExchangeSteps(p, 2, 0) },
		func() (impl.Program, bool) { return impl.DropUnreached(p, 0) },
		func() (impl.Program, bool) { return impl.DropUnreached(p, 1) },
		func() (impl.Program, bool) { return impl.RenumberFunctions(p, []int{1, 2, 3, 0}) },
		func() (impl.Program, bool) { return impl.RenumberFunctions(p, []int{0, 1, 2, 3}) },
		kept(0), kept(1), kept(2),
		func() (impl.Program, bool) { return impl.InlineEmpty(p, 0) },
		func() (impl.Program, bool) { return impl.InlineEmpty(p, 1) },
	)
	checkListsApart(t,
		func() ([]int, bool) { return impl.ReadsOf(p, 0, 0) },
		func() ([]int, bool) { return impl.WritesOf(p, 1, 0) },
	)
}
