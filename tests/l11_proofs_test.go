package tests

import (
	"math"
	"math/rand/v2"
	"slices"
	"testing"

	"loop.example/g01183/impl"
)

func finding(rule int, f int, place int) impl.Finding {
	return impl.Finding{Rule: rule, Function: f, Place: place}
}

// The Findings of each Rule, by short names.
func deadAt(f int, place int) impl.Finding    { return finding(impl.LintDead, f, place) }
func recoverAt(f int, place int) impl.Finding { return finding(impl.LintRecover, f, place) }
func outerAt(f int, place int) impl.Finding   { return finding(impl.LintOuter, f, place) }
func unused(f int) impl.Finding               { return finding(impl.LintUnused, f, 0) }
func jumpAt(f int, place int) impl.Finding    { return finding(impl.LintJump, f, place) }
func loopAt(f int, place int) impl.Finding    { return finding(impl.LintLoop, f, place) }
func cycleAt(f int, place int) impl.Finding   { return finding(impl.LintRecursion, f, place) }

// leadsByRule tells as chapter 11 says it to which places a Step leads.
func leadsByRule(b []impl.Step, at int) []int {
	leads := []int{}
	for to := range len(b) + 1 {
		next := to == at+1 && !slices.Contains([]int{impl.StepPanic, impl.StepReturn, impl.StepExit}, b[at].Kind)
		far := b[at].Kind == impl.StepJump && (to == b[at].A || to == len(b) && b[at].A > to)
		if next || far {
			leads = append(leads, to)
		}
	}
	return leads
}

// waysByRule tells for each two places of a body whether one comes from one of them to the other by
// at least one lead, by all ways from any place to any other.
func waysByRule(b []impl.Step) [9][9]bool {
	way := [9][9]bool{}
	for at := range b {
		for _, to := range leadsByRule(b, at) {
			way[at][to] = true
		}
	}
	for by := range b {
		for from := range b {
			for to := range b {
				way[from][to] = way[from][to] || way[from][by] && way[by][to]
			}
		}
	}
	return way
}

func TestPromise11WhatTestProgramsDo(t *testing.T) {
	for _, p := range append(onwardPrograms(110, 500), loopingPrograms(110, 500)...) {
		if !impl.IsProgram(p) {
			t.Error("no program", textByRule(p))
		}
	}
	for _, p := range onwardPrograms(110, 500) {
		for f, b := range p.Functions {
			if slices.ContainsFunc(b, func(s impl.Step) bool { return isCall(s) && s.A <= f }) {
				t.Error("not onward", f, textByRule(p))
			}
		}
	}
	if !sameProgram(stackProgram(), impl.StackProgram()) {
		t.Error("no stack", textByRule(stackProgram()))
	}
	for arg, want := range map[int]impl.Outcome{-1: {Kind: back, Spent: 4}, 0: {Kind: back, Spent: 4}, 1: {Kind: back, Spent: 4}, 2: {Kind: back, Spent: 6},
		98: {Kind: back, Spent: 198}, 99: {Kind: back, Spent: 200}, 100: {Kind: stops, Spent: 200}} {
		if o, ok := impl.RunProgram(longest(), 0, arg, 200); !ok || o.Kind != want.Kind || o.Spent != want.Spent {
			t.Error("longest", arg, o, ok)
		}
	}
}

// checkPlaces compares what is told of the places of a function with its rule, and returns how many
// are open.
func checkPlaces(t *testing.T, p impl.Program, f int) int {
	t.Helper()
	b := p.Functions[f]
	way, open := waysByRule(b), []int{}
	for at := range b {
		if at == 0 || way[0][at] {
			open = append(open, at)
		}
		if leads, ok := impl.LeadsTo(p, f, at); !ok || !slices.Equal(leads, leadsByRule(b, at)) {
			t.Fatalf("from %d of %d of %s: %v %t, not %v", at, f, textByRule(p), leads, ok, leadsByRule(b, at))
		}
	}
	if places, ok := impl.OpenPlaces(p, f); !ok || !slices.Equal(places, open) {
		t.Fatalf("open in %d of %s: %v %t, not %v", f, textByRule(p), places, ok, open)
	}
	return len(open)
}

// findingsByRule tells as chapter 11 says it what there is in a Program: Rule by Rule, each in all
// functions and at all places.
func findingsByRule(p impl.Program) []impl.Finding {
	var reached [6][]bool
	var ways [6][9][9]bool
	var deferred [6]bool
	for f, b := range p.Functions {
		reached[f], ways[f] = reachedByRule(p, f), waysByRule(b)
		for _, s := range b {
			if s.Kind == impl.StepDefer {
				deferred[s.A] = true
			}
		}
	}
	found := func(rule int, f int, at int, s impl.Step) bool {
		return rule == impl.LintDead && at > 0 && !ways[f][0][at] ||
			rule == impl.LintRecover && s.Kind == impl.StepRecover && !deferred[f] ||
			rule == impl.LintOuter && s.Kind == impl.StepOuter && !deferred[f] ||
			rule == impl.LintJump && s.Kind == impl.StepJump && s.A-1 == at ||
			rule == impl.LintLoop && s.Kind == impl.StepDefer && ways[f][at][at] ||
			rule == impl.LintRecursion && isCall(s) && reached[s.A][f]
	}
	var list []impl.Finding
	for rule := 1; rule <= 7; rule++ {
		for f, b := range p.Functions {
			if rule == impl.LintUnused && !reached[0][f] {
				list = append(list, unused(f))
			}
			for at, s := range b {
				if found(rule, f, at, s) {
					list = append(list, finding(rule, f, at))
				}
			}
		}
	}
	return list
}

// checkLint compares all Findings in a Program with their rules.
func checkLint(t *testing.T, p impl.Program) []impl.Finding {
	t.Helper()
	list, ok := impl.LintProgram(p)
	if want := findingsByRule(p); !ok || !slices.Equal(list, want) {
		t.Fatalf("found in %s: %v %t, not %v", textByRule(p), list, ok, want)
	}
	return list
}

func TestPromise11EachStepAtEachPlace(t *testing.T) {
	for _, s := range everyStep() {
		for at := range impl.MaxBody {
			for _, size := range []int{at + 1, min(at+3, impl.MaxBody), impl.MaxBody} {
				for _, other := range []impl.Step{say(0), exit(), jump(at, 1), jump(0, 1)} {
					b := slices.Repeat(body(other), size)
					b[at] = s
					p := program(body(later(1, 0)), b)
					checkPlaces(t, p, 1)
					checkLint(t, p)
				}
			}
		}
	}
}

func TestPromise11LeadsTo(t *testing.T) {
	for _, s := range []impl.Step{set(0, 1), add(1, 2), say(3), call(0, 1), later(0, 1), save(2), outer(1), keep(0), take(3)} {
		for size := 1; size <= impl.MaxBody; size++ {
			p := program(slices.Repeat(body(s), size))
			for at := range size {
				if leads, ok := impl.LeadsTo(p, 0, at); !ok || !slices.Equal(leads, []int{at + 1}) {
					t.Error("to the next place", s, size, at, leads, ok)
				}
			}
		}
	}
	for _, s := range []impl.Step{throw(0), throw(3), give(1), exit()} {
		for size := 1; size <= impl.MaxBody; size++ {
			p := program(slices.Repeat(body(s), size))
			for at := range size {
				if leads, ok := impl.LeadsTo(p, 0, at); !ok || len(leads) != 0 {
					t.Error("to none", s, size, at, leads, ok)
				}
			}
		}
	}
	for _, one := range []struct {
		size, at, place int
		want            []int
	}{
		// The first place.
		{3, 0, 0, []int{0, 1}}, {3, 0, 1, []int{1}}, {3, 0, 2, []int{1, 2}}, {3, 0, 3, []int{1, 3}}, {3, 0, 4, []int{1, 3}}, {3, 0, 8, []int{1, 3}},
		// A middle one.
		{3, 1, 0, []int{0, 2}}, {3, 1, 1, []int{1, 2}}, {3, 1, 2, []int{2}}, {3, 1, 3, []int{2, 3}}, {3, 1, 4, []int{2, 3}}, {3, 1, 8, []int{2, 3}},
		// The last one, of which the next place is the end.
		{3, 2, 0, []int{0, 3}}, {3, 2, 1, []int{1, 3}}, {3, 2, 2, []int{2, 3}}, {3, 2, 3, []int{3}}, {3, 2, 4, []int{3}}, {3, 2, 8, []int{3}},
		// A Step alone.
		{1, 0, 0, []int{0, 1}}, {1, 0, 1, []int{1}}, {1, 0, 2, []int{1}}, {1, 0, 8, []int{1}},
		// As many as there may be.
		{8, 0, 8, []int{1, 8}}, {8, 0, 7, []int{1, 7}}, {8, 6, 8, []int{7, 8}}, {8, 7, 8, []int{8}}, {8, 7, 7, []int{7, 8}}, {8, 7, 0, []int{0, 8}}, {7, 6, 8, []int{7}},
	} {
		b := slices.Repeat(body(exit()), one.size)
		b[one.at] = jump(one.place, one.at%4)
		p := program(body(say(0)), b)
		if leads, ok := impl.LeadsTo(p, 1, one.at); !ok || !slices.Equal(leads, one.want) {
			t.Error("of a jump", one, leads, ok)
		}
	}
}

func TestPromise11OpenPlaces(t *testing.T) {
	for name, one := range map[string]struct {
		text string
		want []int
	}{
		"no Steps":                           {"", nil},
		"one Step":                           {"3.0.0", []int{0}},
		"one that leads to none":             {"10.0.0", []int{0}},
		"all of them":                        {"1.0.1 2.0.0 3.0.0 4.0.1 5.0.1 7.0.0 9.0.0 12.0.0", numbers(0, 7)},
		"what is taken":                      {"13.0.0 3.0.0", []int{0, 1}},
		"behind a panic":                     {"3.0.0 6.0.0 3.0.0 3.0.0", []int{0, 1}},
		"behind a return":                    {"8.0.0 3.0.0", []int{0}},
		"behind an exit":                     {"10.0.0 11.0.0 11.1.0", []int{0}},
		"over an exit":                       {"11.2.0 10.0.0 3.0.0", []int{0, 1, 2}},
		"over two Steps of which one is":     {"11.3.0 10.0.0 3.0.0 3.0.0", []int{0, 1, 3}},
		"to its own place":                   {"11.0.0", []int{0}},
		"to its own place, and on":           {"11.0.0 3.0.0", []int{0, 1}},
		"to the next place":                  {"11.1.0 8.0.0 11.3.0 3.0.0", []int{0, 1}},
		"to the end":                         {"11.3.0 8.0.0 3.0.0", []int{0, 1}},
		"beyond the end":                     {"11.8.0 8.0.0 3.0.0", []int{0, 1}},
		"backwards to what was open":         {"3.0.0 11.0.0 8.0.0 3.0.0", []int{0, 1, 2}},
		"backwards to what was not":          {"11.4.0 8.0.0 3.0.0 10.0.0 11.2.0 8.0.0 3.0.0", []int{0, 1, 2, 3, 4, 5}},
		"backwards again and again":          {"11.7.0 10.0.0 10.0.0 11.2.0 10.0.0 11.3.0 10.0.0 11.5.0", numbers(0, 7)},
		"a loop that nothing leaves in runs": {"1.2.1 11.0.2 3.0.0 8.0.0 3.1.0", []int{0, 1, 2, 3}},
		"a loop to which nothing leads":      {"8.0.0 3.0.0 11.1.0 3.0.0", []int{0}},
		"each other, and nothing leads":      {"8.0.0 11.2.0 11.1.0", []int{0}},
	} {
		p, ok := impl.ParseProgram("3.0.0 3.0.0/" + one.text)
		places, fine := impl.OpenPlaces(p, 1)
		if !ok || !fine || !slices.Equal(places, one.want) {
			t.Error(name, places, ok, fine)
		}
		checkPlaces(t, p, 1)
	}
}

func TestPromise11EachSmallBodyIsToldByItsRule(t *testing.T) {
	choice := body(say(0), later(0, 1), give(0), throw(0), save(3), outer(2), jump(0, 3), jump(1, 0), jump(2, 2), jump(3, 0), jump(4, 3), jump(8, 0))
	for _, b := range bodiesOf(choice, 4) {
		p := program(b)
		checkPlaces(t, p, 0)
		checkLint(t, p)
	}
}

func TestPromise11EachSmallCycleIsFoundByItsRule(t *testing.T) {
	small := bodiesOf(body(call(0, 1), later(1, 0), call(2, 3), later(2, 0)), 2)
	tail := body(save(1), outer(0))
	for _, one := range small {
		for _, two := range small {
			for _, three := range small {
				checkLint(t, program(slices.Concat(one, tail), slices.Concat(two, tail), slices.Concat(tail, three)))
			}
		}
	}
}

func TestPromise11PlacesAndFindingsAreThoseOfTheirRules(t *testing.T) {
	var rules [8]int
	var clean, closed int
	programs := append(randomPrograms(111, 3000), exchangingPrograms(111, 2000)...)
	for _, p := range append(append(programs, onwardPrograms(111, 2000)...), loopingPrograms(111, 2000)...) {
		for f, b := range p.Functions {
			closed += len(b) - checkPlaces(t, p, f)
		}
		list := checkLint(t, p)
		for _, one := range list {
			rules[one.Rule]++
		}
		if len(list) == 0 {
			clean++
		}
	}
	if slices.Min(rules[1:]) < 400 || clean < 20 || closed < 1000 {
		t.Error("the programs are too much alike", rules, clean, closed)
	}
}

// onwardPrograms returns valid Programs, always the same ones for the same seed, whose functions
// call and defer greater ones alone, many of them the next one ahead of other Steps.
func onwardPrograms(seed uint64, count int) []impl.Program {
	r := rand.New(rand.NewPCG(seed, 11))
	all := make([]impl.Program, count)
	for i := range all {
		functions := max(1+r.IntN(impl.MaxFunctions), 1+r.IntN(impl.MaxFunctions))
		for f := range functions {
			b := make([]impl.Step, r.IntN(impl.MaxBody+1))
			for at := range b {
				for b[at] = randomStep(r, functions); isCall(b[at]) && b[at].A <= f; {
					b[at] = randomStep(r, functions)
				}
			}
			if f+1 < functions && len(b) > 0 && r.IntN(4) > 0 {
				b[0] = impl.Step{Kind: impl.StepCall + r.IntN(2), A: f + 1, B: r.IntN(4)}
			}
			all[i].Functions = append(all[i].Functions, b)
		}
	}
	return all
}

func isCall(s impl.Step) bool { return s.Kind == impl.StepCall || s.Kind == impl.StepDefer }

// loopingPrograms returns valid Programs, always the same ones for the same seed: many of their
// Steps are jumps, forwards and backwards, by the argument, which others make less.
func loopingPrograms(seed uint64, count int) []impl.Program {
	r := rand.New(rand.NewPCG(seed, 12))
	all := make([]impl.Program, count)
	for i := range all {
		functions := 1 + r.IntN(4)
		for range functions {
			b := body(set(3, -1-r.IntN(3)))
			for len(b) < impl.MaxBody && r.IntN(9) > 0 {
				over := jump(min(len(b)+2, impl.MaxBody), 0)
				next := body(add(0, 3), add(0, 3), add(0, 3), jump(r.IntN(9), 0), jump(r.IntN(9), 0), jump(r.IntN(9), 0), over, over)
				next = append(next, say(0), give(0), throw(0), exit(), call(r.IntN(functions), 0), later(r.IntN(functions), 0), later(r.IntN(functions), 3), save(1))
				b = append(b, next[r.IntN(len(next))])
			}
			all[i].Functions = append(all[i].Functions, b)
		}
	}
	return all
}

func TestPromise11LintOfEachRuleAlone(t *testing.T) {
	full := slices.Repeat(body(say(0)), impl.MaxBody)
	full[7] = jump(8, 0)
	for name, one := range map[string]struct {
		p    impl.Program
		want []impl.Finding
	}{
		"nothing": {program(nil), nil},
		"nothing in all Kinds": {program(body(set(0, 1), add(0, 1), call(1, 0), later(2, 0), keep(0), jump(7, 0), exit(), throw(0)),
			body(take(1), say(1), give(1)), body(save(0), outer(0))), nil},
		// Dead Steps.
		"behind an exit":             {program(body(exit(), say(0))), []impl.Finding{deadAt(0, 1)}},
		"behind a return":            {program(body(say(0), give(0), say(0), say(1))), []impl.Finding{deadAt(0, 2), deadAt(0, 3)}},
		"behind a panic":             {program(body(throw(0), exit(), exit())), []impl.Finding{deadAt(0, 1), deadAt(0, 2)}},
		"a jump over it":             {program(body(jump(2, 0), exit(), say(0))), nil},
		"a jump over one of them":    {program(body(jump(3, 0), exit(), say(0), say(0))), []impl.Finding{deadAt(0, 2)}},
		"the last of them":           {program(body(jump(3, 0), say(0), exit(), exit(), say(0))), []impl.Finding{deadAt(0, 4)}},
		"a dead jump opens nothing":  {program(body(exit(), jump(3, 0), exit(), say(0))), []impl.Finding{deadAt(0, 1), deadAt(0, 2), deadAt(0, 3)}},
		"a loop that nothing leaves": {program(body(set(2, 1), jump(0, 2), say(0))), nil},
		// Recoveries and outer results of functions that are deferred, called, both and neither.
		"recovers, not deferred":    {program(body(save(0))), []impl.Finding{recoverAt(0, 0)}},
		"tells, not deferred":       {program(body(outer(0))), []impl.Finding{outerAt(0, 0)}},
		"twice each":                {program(body(save(0), outer(0), outer(1), save(3))), []impl.Finding{recoverAt(0, 0), recoverAt(0, 3), outerAt(0, 1), outerAt(0, 2)}},
		"called":                    {program(body(call(1, 0)), body(outer(1), save(0))), []impl.Finding{recoverAt(1, 1), outerAt(1, 0)}},
		"deferred":                  {program(body(later(1, 0)), body(save(0), outer(1))), nil},
		"both":                      {program(body(call(1, 0), later(1, 0)), body(save(0), outer(1))), nil},
		"both, in the other order":  {program(body(later(1, 0), call(1, 0)), body(save(0), outer(1))), nil},
		"neither":                   {program(nil, body(say(0), save(0), outer(1))), []impl.Finding{recoverAt(1, 1), outerAt(1, 2), unused(1)}},
		"another one deferred":      {program(body(call(1, 0), later(2, 0)), body(save(0), outer(1)), body(save(0))), []impl.Finding{recoverAt(1, 0), outerAt(1, 1)}},
		"deferred behind it":        {program(body(call(1, 0)), body(save(0), outer(1), call(2, 0)), body(later(3, 1)), body(save(0))), []impl.Finding{recoverAt(1, 0), outerAt(1, 1)}},
		"deferred by the last":      {program(body(call(1, 0), call(2, 0)), body(save(0), outer(1)), body(later(1, 1))), nil},
		"deferred by a dead one":    {program(body(exit(), later(1, 0)), body(save(0), outer(1))), []impl.Finding{deadAt(0, 1)}},
		"deferred by an unused one": {program(body(call(2, 0)), body(later(2, 0)), body(save(0), outer(1))), []impl.Finding{unused(1)}},
		"deferred by itself":        {program(body(save(0), outer(1), later(0, 0))), []impl.Finding{cycleAt(0, 2)}},
		// Functions that are not used.
		"not used":              {program(nil, nil), []impl.Finding{unused(1)}},
		"all but one":           {program(nil, nil, nil, nil, nil, nil), []impl.Finding{unused(1), unused(2), unused(3), unused(4), unused(5)}},
		"called by another one": {program(body(call(2, 0)), nil, body(later(3, 0)), nil), []impl.Finding{unused(1)}},
		"called by none used":   {program(nil, body(call(2, 0)), body(say(0))), []impl.Finding{unused(1), unused(2)}},
		"calls the first":       {program(body(say(0)), body(call(0, 0), later(0, 0))), []impl.Finding{unused(1)}},
		"called by a dead one":  {program(body(exit(), call(1, 0)), nil), []impl.Finding{deadAt(0, 1)}},
		"the first, by none":    {program(body(say(0))), nil},
		// Jumps to the next place.
		"to the next place":         {program(body(jump(1, 0))), []impl.Finding{jumpAt(0, 0)}},
		"to the next one, thrice":   {program(body(jump(1, 0), say(0), jump(3, 2), jump(4, 3))), []impl.Finding{jumpAt(0, 0), jumpAt(0, 2), jumpAt(0, 3)}},
		"to the end, from the last": {program(full), []impl.Finding{jumpAt(0, 7)}},
		"to the end":                {program(body(jump(2, 0), say(0))), nil},
		"beyond the end":            {program(body(say(0), jump(3, 0))), nil},
		"far beyond the end":        {program(body(say(0), jump(8, 0))), nil},
		"to its own place":          {program(body(say(0), jump(1, 0))), nil},
		"backwards":                 {program(body(say(0), say(0), jump(0, 0))), nil},
		"backwards by one":          {program(body(say(0), jump(0, 0))), nil},
		"over one":                  {program(body(jump(2, 0), say(0), say(0))), nil},
		"what is no jump":           {program(body(say(1), call(1, 0), later(2, 0), set(3, 4)), nil, nil), nil},
		// Deferred calls in loops.
		"in a loop":                 {program(body(later(1, 0), jump(0, 0)), nil), []impl.Finding{loopAt(0, 0)}},
		"two in a loop of three":    {program(body(later(1, 0), later(1, 1), jump(0, 0)), nil), []impl.Finding{loopAt(0, 0), loopAt(0, 1)}},
		"behind a loop":             {program(body(say(0), jump(0, 0), later(1, 0)), nil), nil},
		"ahead of a loop":           {program(body(later(1, 0), say(0), jump(1, 0)), nil), nil},
		"ahead, in and behind":      {program(body(later(1, 0), later(1, 1), jump(1, 0), later(1, 2)), nil), []impl.Finding{loopAt(0, 1)}},
		"ahead of a jump to itself": {program(body(later(1, 0), jump(1, 0), later(1, 0)), nil), nil},
		"in the inner one of two":   {program(body(say(0), later(1, 0), jump(1, 0), jump(0, 0)), nil), []impl.Finding{loopAt(0, 1)}},
		"in the outer one of two":   {program(body(later(1, 0), say(0), jump(1, 0), jump(0, 0)), nil), []impl.Finding{loopAt(0, 0)}},
		"jumped over in a loop":     {program(body(jump(3, 0), say(0), exit(), later(1, 0), jump(1, 0)), nil), nil},
		"a way back that ends":      {program(body(later(1, 0), exit(), jump(0, 0)), nil), []impl.Finding{deadAt(0, 2)}},
		"a loop that calls":         {program(body(call(1, 0), jump(0, 0)), nil), nil},
		"called in a loop":          {program(body(call(1, 0), jump(0, 0)), body(later(2, 0)), nil), nil},
		// Calls that come back.
		"itself, called":             {program(body(call(0, 0))), []impl.Finding{cycleAt(0, 0)}},
		"itself, deferred":           {program(body(say(0), later(0, 0))), []impl.Finding{cycleAt(0, 1)}},
		"each other":                 {program(body(call(1, 0)), body(later(0, 0))), []impl.Finding{cycleAt(0, 0), cycleAt(1, 0)}},
		"through a third":            {program(body(call(1, 0)), body(say(0), later(2, 0)), body(call(0, 1))), []impl.Finding{cycleAt(0, 0), cycleAt(1, 1), cycleAt(2, 0)}},
		"through all":                {program(body(call(1, 0)), body(call(2, 0)), body(call(3, 0)), body(call(4, 0)), body(call(5, 0)), body(call(0, 0))), []impl.Finding{cycleAt(0, 0), cycleAt(1, 0), cycleAt(2, 0), cycleAt(3, 0), cycleAt(4, 0), cycleAt(5, 0)}},
		"through all but the last":   {program(body(call(1, 0)), body(call(2, 0)), body(call(3, 0)), body(call(4, 0)), body(call(5, 0)), nil), nil},
		"the others alone":           {program(body(call(1, 0)), body(call(2, 0)), body(later(1, 0))), []impl.Finding{cycleAt(1, 0), cycleAt(2, 0)}},
		"the other one itself":       {program(body(call(1, 0)), body(call(1, 0))), []impl.Finding{cycleAt(1, 0)}},
		"one of two calls":           {program(body(call(1, 0), call(2, 0)), nil, body(call(0, 0))), []impl.Finding{cycleAt(0, 1), cycleAt(2, 0)}},
		"one function in two ways":   {program(body(call(1, 0), later(2, 0)), body(call(3, 0)), body(call(3, 0)), nil), nil},
		"what only has its number":   {program(body(say(0), set(0, 0), jump(0, 0))), nil},
		"from one that is not used":  {program(nil, body(call(1, 0))), []impl.Finding{unused(1), cycleAt(1, 0)}},
		"only back from one unused":  {program(body(call(1, 0)), nil, body(call(0, 0))), []impl.Finding{unused(2)}},
		"to one unused from a dead":  {program(body(exit(), call(1, 0)), body(call(0, 0))), []impl.Finding{deadAt(0, 1), cycleAt(0, 1), cycleAt(1, 0)}},
		"each Step that comes back":  {program(body(call(0, 0), later(0, 1), call(0, 3))), []impl.Finding{cycleAt(0, 0), cycleAt(0, 1), cycleAt(0, 2)}},
		"other Kinds that come back": {program(body(call(1, 0)), body(jump(0, 1), keep(0))), nil},
	} {
		if list := checkLint(t, one.p); !slices.Equal(list, one.want) {
			t.Error(name, list)
		}
	}
}

func TestPromise11LintOfSeveralRules(t *testing.T) {
	for name, one := range map[string]struct {
		p    impl.Program
		want []impl.Finding
	}{
		"dead and recovers":         {program(body(exit(), save(0))), []impl.Finding{deadAt(0, 1), recoverAt(0, 1)}},
		"dead and tells":            {program(body(exit(), outer(0))), []impl.Finding{deadAt(0, 1), outerAt(0, 1)}},
		"dead and to the next":      {program(body(exit(), jump(2, 0))), []impl.Finding{deadAt(0, 1), jumpAt(0, 1)}},
		"dead, in a loop, and back": {program(body(exit(), later(0, 0), jump(1, 0))), []impl.Finding{deadAt(0, 1), deadAt(0, 2), loopAt(0, 1), cycleAt(0, 1)}},
		"in a loop, and back":       {program(body(later(0, 0), jump(0, 0))), []impl.Finding{loopAt(0, 0), cycleAt(0, 0)}},
		"unused, and recovers":      {program(nil, body(save(0))), []impl.Finding{recoverAt(1, 0), unused(1)}},
		"unused, and tells":         {program(nil, body(outer(0))), []impl.Finding{outerAt(1, 0), unused(1)}},
		"unused, and to the next":   {program(nil, body(jump(1, 0))), []impl.Finding{unused(1), jumpAt(1, 0)}},
		"unused, in a loop, back":   {program(nil, body(later(1, 0), jump(0, 0))), []impl.Finding{unused(1), loopAt(1, 0), cycleAt(1, 0)}},
		"one Rule in all functions": {program(body(call(1, 0), outer(0)), body(call(2, 0), outer(0)), body(outer(0), outer(1))),
			[]impl.Finding{outerAt(0, 1), outerAt(1, 1), outerAt(2, 0), outerAt(2, 1)}},
		"Rules in falling order": {program(body(call(0, 0), later(1, 0), jump(1, 0), jump(4, 0), outer(0), save(0), exit(), exit()), nil, nil),
			[]impl.Finding{deadAt(0, 7), recoverAt(0, 5), outerAt(0, 4), unused(2), jumpAt(0, 3), loopAt(0, 1), cycleAt(0, 0)}},
		"all Rules": {program(
			body(jump(1, 0), later(1, 0), jump(1, 0), call(0, 3), exit(), save(0), outer(0), jump(8, 0)),
			body(save(0), call(0, 0), outer(1), give(1), jump(5, 2), call(1, 0)),
			body(outer(0), save(2), jump(0, 1))),
			[]impl.Finding{deadAt(0, 5), deadAt(0, 6), deadAt(0, 7), deadAt(1, 4), deadAt(1, 5), recoverAt(0, 5), recoverAt(2, 1), outerAt(0, 6), outerAt(2, 0),
				unused(2), jumpAt(0, 0), jumpAt(0, 7), jumpAt(1, 4), loopAt(0, 1), cycleAt(0, 1), cycleAt(0, 3), cycleAt(1, 1), cycleAt(1, 5)}},
	} {
		if list := checkLint(t, one.p); !slices.Equal(list, one.want) {
			t.Error(name, list)
		}
	}
	// As many as there can be: but for the first one, each Step is dead and another Finding too.
	dead := slices.Repeat(body(later(1, 0)), impl.MaxBody)
	dead[0], dead[7] = exit(), jump(1, 0)
	list := checkLint(t, program(nil, dead, dead, dead, dead, dead))
	if len(list) != 35+5+30+6 {
		t.Error("as many as there can be", len(list), list)
	}
}

// placesMade tells which Steps of a Program are made, or are not, in one of the runs with arguments
// from low to high.
func placesMade(p impl.Program, f int, low int, high int, fuel int, want bool) pairs {
	var made [6][8]bool
	for arg := low; arg <= high; arg++ {
		for g, places := range modelOf(p, f, arg, fuel).made {
			for at, is := range places {
				made[g][at] = made[g][at] || is
			}
		}
	}
	var list pairs
	for g, b := range p.Functions {
		for at := range b {
			if made[g][at] == want {
				list = append(list, [2]int{g, at})
			}
		}
	}
	return list
}

// checkMade compares the Steps that are made in a run with the model.
func checkMade(t *testing.T, p impl.Program, f int, arg int, fuel int) pairs {
	t.Helper()
	made, ok := impl.MadePlaces(p, f, arg, fuel)
	if want := placesMade(p, f, arg, arg, fuel, true); !ok || !slices.Equal(made, want) {
		t.Fatalf("made by %d of %s with %d and %d: %v %t, not %v", f, textByRule(p), arg, fuel, made, ok, want)
	}
	for _, place := range made {
		if open, _ := impl.OpenPlaces(p, place[0]); !slices.Contains(open, place[1]) {
			t.Fatalf("made, and not open: %v of %s", place, textByRule(p))
		}
	}
	return made
}

// checkNever compares the Steps that are made in no run of a range with the model.
func checkNever(t *testing.T, p impl.Program, f int, low int, high int, fuel int) pairs {
	t.Helper()
	never, ok := impl.NeverMade(p, f, low, high, fuel)
	if want := placesMade(p, f, low, high, fuel, false); !ok || !slices.Equal(never, want) {
		t.Fatalf("never made by %d of %s from %d to %d with %d: %v %t, not %v", f, textByRule(p), low, high, fuel, never, ok, want)
	}
	return never
}

func TestPromise11StepsThatAreMadeAreThoseOfTheModel(t *testing.T) {
	var ends [5]int
	var none, part, whole int
	programs := append(randomPrograms(112, 1500), recoveringPrograms(112, 1000)...)
	for i, p := range append(programs, loopingPrograms(112, 1000)...) {
		size := len(slices.Concat(p.Functions...))
		for f := range p.Functions {
			arg, fuel := edgeNumbers[(i+f)%len(edgeNumbers)], []int{200, 200, 60, 7, 3, 1}[i%6]
			made := checkMade(t, p, f, arg, fuel)
			never := checkNever(t, p, f, arg, arg, fuel)
			if o, _ := impl.RunProgram(p, f, arg, fuel); size > 0 {
				ends[o.Kind]++
			}
			if len(made)+len(never) != size {
				t.Fatalf("neither made nor never made: %d of %s: %v %v", f, textByRule(p), made, never)
			}
			switch {
			case len(made) == 0:
				none++
			case len(never) == 0:
				whole++
			default:
				part++
			}
		}
	}
	if slices.Min(ends[1:]) < 500 || min(none, part, whole) < 100 {
		t.Error("the runs are too much alike", ends, none, part, whole)
	}
}

func TestPromise11StepsThatAreMadeWithEachFuel(t *testing.T) {
	for i, p := range append(append(loopingPrograms(113, 30), recoveringPrograms(113, 30)...), stackProgram(), mixed()) {
		before := 0
		for fuel := range impl.MaxFuel + 1 {
			made := checkMade(t, p, 0, []int{1, 3, 9}[i%3], fuel)
			if len(made) < before || len(made) > before+1 {
				t.Fatalf("from %d to %d with the fuel %d: %s", before, len(made), fuel, textByRule(p))
			}
			before = len(made)
		}
	}
}

// stackProgram is the Program of StackProgram (chapter 3), beside the program.
func stackProgram() impl.Program {
	return program(body(set(3, -1), later(1, 0), add(0, 3), jump(1, 0)), body(say(0)))
}

func TestPromise11MadePlaces(t *testing.T) {
	for _, one := range []struct {
		name         string
		p            impl.Program
		f, arg, fuel int
		kind         int
		want         pairs
	}{
		{"no Steps", program(nil), 0, 5, 200, back, nil},
		{"no Steps, no fuel", program(nil), 0, 5, 0, back, nil},
		{"no fuel", program(body(say(0))), 0, 5, 0, stops, nil},
		{"one Step", program(body(say(0))), 0, 5, 1, back, pairs{{0, 0}}},
		{"spent behind one", program(body(say(0), say(0), say(0))), 0, 5, 1, stops, pairs{{0, 0}}},
		{"spent behind two", program(body(say(0), say(0), say(0))), 0, 5, 2, stops, pairs{{0, 0}, {0, 1}}},
		{"panics", program(body(say(0), throw(0), say(0))), 0, 5, 200, panics, pairs{{0, 0}, {0, 1}}},
		{"exits", program(body(say(0), exit(), say(0))), 0, 5, 200, leaves, pairs{{0, 0}, {0, 1}}},
		{"returns", program(body(say(0), give(0), say(0))), 0, 5, 200, back, pairs{{0, 0}, {0, 1}}},
		{"jumps", program(body(jump(2, 0), exit(), say(0))), 0, 1, 200, back, pairs{{0, 0}, {0, 2}}},
		{"does not jump", program(body(jump(2, 0), exit(), say(0))), 0, 0, 200, leaves, pairs{{0, 0}, {0, 1}}},
		{"jumps to the end", program(body(jump(2, 0), say(0))), 0, 1, 200, back, pairs{{0, 0}}},
		{"jumps beyond the end", program(body(jump(8, 0), say(0))), 0, 1, 200, back, pairs{{0, 0}}},
		{"each once in a loop", program(body(set(3, -1), say(0), add(0, 3), jump(1, 0), say(3))), 0, 9, 200, back, pairs{{0, 0}, {0, 1}, {0, 2}, {0, 3}, {0, 4}}},
		{"a loop that nothing leaves", program(body(set(2, 1), jump(0, 2), say(0))), 0, 0, 200, stops, pairs{{0, 0}, {0, 1}}},
		{"a loop of one place", program(body(jump(0, 0), say(0))), 0, 1, 200, stops, pairs{{0, 0}}},
		{"a call", program(body(call(1, 0), say(0)), body(give(0), say(0))), 0, 5, 200, back, pairs{{0, 0}, {0, 1}, {1, 0}}},
		{"a call of one before", program(body(say(0), exit()), body(say(0), call(0, 0), say(0))), 1, 5, 200, leaves, pairs{{0, 0}, {0, 1}, {1, 0}, {1, 1}}},
		{"a call that panics", program(body(call(1, 0), say(0)), body(throw(0))), 0, 5, 200, panics, pairs{{0, 0}, {1, 0}}},
		{"a deferred call", program(body(later(1, 0), throw(0), say(0)), body(save(0), outer(0))), 0, 5, 200, back, pairs{{0, 0}, {0, 1}, {1, 0}, {1, 1}}},
		{"a deferred call of one that exits", program(body(later(1, 0), exit(), say(0)), body(say(0))), 0, 5, 200, leaves, pairs{{0, 0}, {0, 1}, {1, 0}}},
		{"a deferred call of one that is spent", program(body(later(1, 0), say(0)), body(say(0))), 0, 5, 1, stops, pairs{{0, 0}}},
		{"spent ahead of a deferred call", program(body(later(1, 0), say(0)), body(say(0))), 0, 5, 2, stops, pairs{{0, 0}, {0, 1}}},
		{"spent in a deferred call", program(body(later(1, 0), say(0)), body(say(0), say(0))), 0, 5, 3, stops, pairs{{0, 0}, {0, 1}, {1, 0}}},
		{"too deep", program(body(say(0), call(0, 0), say(0))), 0, 5, 200, stops, pairs{{0, 0}, {0, 1}}},
		{"a deferred call that is too deep", program(body(later(0, 0), say(0))), 0, 5, 200, stops, pairs{{0, 0}, {0, 1}}},
		{"another function", program(body(say(0)), body(exit(), say(0)), body(say(0))), 1, 5, 200, leaves, pairs{{1, 0}}},
		{"all functions", program(body(call(5, 0)), body(say(0)), body(call(1, 0)), body(call(2, 0)), body(call(3, 0)), body(call(4, 0))), 0, 5, 200, back,
			pairs{{0, 0}, {1, 0}, {2, 0}, {3, 0}, {4, 0}, {5, 0}}},
		{"the last place", program(slices.Repeat(body(say(0)), 8)), 0, 5, 200, back, pairs{{0, 0}, {0, 1}, {0, 2}, {0, 3}, {0, 4}, {0, 5}, {0, 6}, {0, 7}}},
		{"two calls of one function", program(body(set(2, 1), call(1, 2), call(1, 0)), body(jump(2, 0), exit(), say(0))), 0, 0, 200, leaves,
			pairs{{0, 0}, {0, 1}, {0, 2}, {1, 0}, {1, 1}, {1, 2}}},
	} {
		made := checkMade(t, one.p, one.f, one.arg, one.fuel)
		o, _ := impl.RunProgram(one.p, one.f, one.arg, one.fuel)
		if !slices.Equal(made, one.want) || o.Kind != one.kind {
			t.Error(one.name, made, o.Kind)
		}
	}
}

func TestPromise11StepsThatAreNeverMadeAreThoseOfTheModel(t *testing.T) {
	fewer := 0
	for i, p := range append(append(randomPrograms(114, 300), loopingPrograms(114, 700)...), decidingPrograms(114, 700)...) {
		for f := range p.Functions {
			low := []int{-2, 0, -32768, 32750, edgeNumbers[i%len(edgeNumbers)] / 2}[(i+f)%5]
			high := low + i%9
			fuel := []int{200, 60, 7}[i%3]
			never := checkNever(t, p, f, low, high, fuel)
			if less := checkNever(t, p, f, low, low, fuel); len(less) > len(never) {
				fewer++
			}
		}
	}
	if fewer < 100 {
		t.Error("the arguments are too much alike", fewer)
	}
}

func TestPromise11NeverMade(t *testing.T) {
	// What it makes turns on whether the argument is greater than 0.
	p := program(body(jump(2, 0), exit(), say(0)), body(say(0)))
	// It makes its last Step with 50 alone.
	one := program(body(set(2, -49), add(2, 0), jump(4, 2), exit(), set(2, -50), add(2, 0), jump(8, 2), say(2)))
	for _, all := range []struct {
		p               impl.Program
		f               int
		low, high, fuel int
		want            pairs
	}{
		// Ranges of one argument.
		{p, 0, 1, 1, 200, pairs{{0, 1}, {1, 0}}},
		{p, 0, 0, 0, 200, pairs{{0, 2}, {1, 0}}},
		{p, 0, -32768, -32768, 200, pairs{{0, 2}, {1, 0}}},
		{p, 0, 32767, 32767, 200, pairs{{0, 1}, {1, 0}}},
		{p, 1, 3, 3, 200, pairs{{0, 0}, {0, 1}, {0, 2}}},
		{one, 0, 50, 50, 200, pairs{{0, 3}}},
		{one, 0, 49, 49, 200, pairs{{0, 4}, {0, 5}, {0, 6}, {0, 7}}},
		{one, 0, 51, 51, 200, pairs{{0, 3}, {0, 7}}},
		// Ranges of more arguments, in which all of them count.
		{p, 0, 0, 1, 200, pairs{{1, 0}}},
		{p, 0, -1, 0, 200, pairs{{0, 2}, {1, 0}}},
		{p, 0, 1, 2, 200, pairs{{0, 1}, {1, 0}}},
		{one, 0, 49, 51, 200, nil},
		{one, 0, 51, 150, 200, pairs{{0, 3}, {0, 7}}},
		// Ranges of MaxRange + 1 arguments.
		{p, 0, -100, 0, 200, pairs{{0, 2}, {1, 0}}},
		{p, 0, -99, 1, 200, pairs{{1, 0}}},
		{p, 0, 0, 100, 200, pairs{{1, 0}}},
		{p, 0, 1, 101, 200, pairs{{0, 1}, {1, 0}}},
		{one, 0, -50, 50, 200, nil},
		{one, 0, 50, 150, 200, pairs{{0, 3}}},
		{p, 0, 32667, 32767, 200, pairs{{0, 1}, {1, 0}}},
		{p, 0, -32768, -32668, 200, pairs{{0, 2}, {1, 0}}},
		// Less fuel.
		{p, 0, -50, 50, 0, pairs{{0, 0}, {0, 1}, {0, 2}, {1, 0}}},
		{p, 0, -50, 50, 1, pairs{{0, 1}, {0, 2}, {1, 0}}},
		{p, 0, -50, 50, 2, pairs{{1, 0}}},
		// Steps that are dead, and loops that nothing leaves.
		{program(body(exit(), say(0)), nil), 0, -50, 50, 200, pairs{{0, 1}}},
		{program(body(set(2, 1), jump(0, 2), say(0))), 0, -50, 50, 200, pairs{{0, 2}}},
		{program(nil, nil), 0, -50, 50, 200, nil},
		// What one run keeps is not there in the next one.
		{program(body(take(1), jump(4, 1), keep(0), exit(), say(0))), 0, 1, 5, 200, pairs{{0, 4}}},
	} {
		if never := checkNever(t, all.p, all.f, all.low, all.high, all.fuel); !slices.Equal(never, all.want) {
			t.Error("never", textByRule(all.p), all.f, all.low, all.high, all.fuel, never)
		}
	}
}

// checkAlways compares the first run of a range with another Kind of Outcome with the model.
func checkAlways(t *testing.T, p impl.Program, f int, low int, high int) [5]int {
	t.Helper()
	var firsts [5]int
	for kind := back; kind <= stops; kind++ {
		want := low
		for ; want <= high; want++ {
			if o, _ := modelOutcome(p, f, want, 200); o.Kind != kind {
				break
			}
		}
		arg, ok := impl.AlwaysEnds(p, f, low, high, kind)
		if !ok || arg != want {
			t.Fatalf("%d of %s from %d to %d, always %d: %d %t, not %d", f, textByRule(p), low, high, kind, arg, ok, want)
		}
		firsts[kind] = arg
	}
	return firsts
}

func TestPromise11WhatAlwaysEndsIsToldAsTheModelRuns(t *testing.T) {
	var always, first, between [5]int
	for i, p := range append(decidingPrograms(115, 1200), loopingPrograms(115, 300)...) {
		low := []int{-5, -2, 0, -32768, 32757}[i%5]
		high := low + i%11
		for kind, arg := range checkAlways(t, p, i%len(p.Functions), low, high) {
			switch {
			case kind == 0:
			case arg == low:
				first[kind]++
			case arg > high:
				always[kind]++
			default:
				between[kind]++
			}
		}
	}
	if slices.Min(always[1:]) < 30 || slices.Min(first[1:]) < 30 || slices.Min(between[1:]) < 30 {
		t.Error("the programs are too much alike", always, first, between)
	}
}

func TestPromise11AlwaysEnds(t *testing.T) {
	// It returns with arguments from 1 on, and panics with others.
	p := program(body(jump(2, 0), throw(0), give(0)))
	for _, all := range []struct {
		p         impl.Program
		low, high int
		// By returning, a panic, an exit, and being spent.
		want [4]int
	}{
		{p, 1, 1, [4]int{2, 1, 1, 1}},
		{p, 0, 0, [4]int{0, 1, 0, 0}},
		{p, 0, 1, [4]int{0, 1, 0, 0}},
		{p, -50, 50, [4]int{-50, 1, -50, -50}},
		{p, 1, 101, [4]int{102, 1, 1, 1}},
		{p, -100, 0, [4]int{-100, 1, -100, -100}},
		{p, 32767, 32767, [4]int{32768, 32767, 32767, 32767}},
		{p, 32667, 32767, [4]int{32768, 32667, 32667, 32667}},
		{p, -32768, -32768, [4]int{-32768, -32767, -32768, -32768}},
		// Kinds of Outcomes that no run has, and those that all of them have.
		{program(nil), -3, 3, [4]int{4, -3, -3, -3}},
		{program(body(throw(0))), -3, 3, [4]int{-3, 4, -3, -3}},
		{program(body(exit())), -3, 3, [4]int{-3, -3, 4, -3}},
		{program(body(call(0, 0))), -3, 3, [4]int{-3, -3, -3, 4}},
		{program(body(set(2, 1), jump(0, 2))), -3, 3, [4]int{-3, -3, -3, 4}},
		// One after another: panics up to 0, an exit with 1, a return with 2, and spent from 3 on.
		{mixed(), -50, 50, [4]int{-50, 1, -50, -50}},
		{mixed(), 1, 50, [4]int{1, 1, 2, 1}},
		{mixed(), 2, 50, [4]int{3, 2, 2, 2}},
		{mixed(), 3, 50, [4]int{3, 3, 3, 51}},
		// With just the greatest fuel, and with one more.
		{longest(), 99, 100, [4]int{100, 99, 99, 99}},
		{longest(), 100, 101, [4]int{100, 100, 100, 102}},
	} {
		if firsts := checkAlways(t, all.p, 0, all.low, all.high); [4]int(firsts[1:]) != all.want {
			t.Error("always", textByRule(all.p), all.low, all.high, firsts)
		}
	}
}

// longest returns a Program that takes 2 of the fuel more than twice its argument, if that is at
// least 1: with 99, that is MaxFuel.
func longest() impl.Program { return program(body(set(2, -1), set(2, -1), add(0, 2), jump(2, 0))) }

// checkMost compares the greatest fuel of a range with that of the model, which fails if one of
// its runs is spent.
func checkMost(t *testing.T, p impl.Program, f int, low int, high int) (int, int, bool) {
	t.Helper()
	var fuels []int
	spent := false
	for arg := low; arg <= high; arg++ {
		o, _ := modelOutcome(p, f, arg, 200)
		fuels = append(fuels, o.Spent)
		spent = spent || o.Kind == stops
	}
	want, at := 0, 0
	if !spent {
		want = slices.Max(fuels)
		at = low + slices.Index(fuels, want)
	}
	most, arg, ok := impl.MostFuel(p, f, low, high)
	if ok == spent || most != want || arg != at {
		t.Fatalf("%d of %s from %d to %d: %d %d %t, not %d %d", f, textByRule(p), low, high, most, arg, ok, want, at)
	}
	return most, arg, ok
}

func TestPromise11TheMostFuelIsThatOfTheModel(t *testing.T) {
	var first, other, fails int
	for i, p := range append(append(decidingPrograms(116, 1200), loopingPrograms(116, 600)...), randomPrograms(116, 300)...) {
		low := []int{-5, -2, 0, -32768, 32757}[i%5]
		_, arg, ok := checkMost(t, p, i%len(p.Functions), low, low+i%11)
		switch {
		case !ok:
			fails++
		case arg == low:
			first++
		default:
			other++
		}
	}
	if min(first, other, fails) < 100 {
		t.Error("the programs are too much alike", first, other, fails)
	}
}

func TestPromise11MostFuel(t *testing.T) {
	// They take 3 of the fuel with arguments up to 0, and 1 with others, or 2 and 3.
	falls := program(body(jump(3, 0), say(0), say(0)))
	rises := program(body(jump(2, 0), exit(), say(0), say(0)))
	for _, all := range []struct {
		p         impl.Program
		low, high int
		most, arg int
		ok        bool
	}{
		// Ranges of one argument.
		{falls, 0, 0, 3, 0, true},
		{falls, 1, 1, 1, 1, true},
		{falls, -32768, -32768, 3, -32768, true},
		{falls, 32767, 32767, 1, 32767, true},
		{program(nil), 7, 7, 0, 7, true},
		// Several arguments that have the greatest one.
		{falls, -3, 3, 3, -3, true},
		{falls, 0, 3, 3, 0, true},
		{falls, 1, 3, 1, 1, true},
		{rises, -3, 3, 3, 1, true},
		{rises, -3, 0, 2, -3, true},
		{program(nil), -3, 3, 0, -3, true},
		{program(nil), 5, 9, 0, 5, true},
		{program(body(exit())), 5, 9, 1, 5, true},
		{program(body(throw(0))), -9, -5, 1, -9, true},
		{program(body(jump(2, 0), jump(1, 0), set(2, 1), keep(2))), -5, 5, 4, -5, true},
		// Ranges of MaxRange + 1 arguments.
		{rises, -50, 50, 3, 1, true},
		{rises, -99, 1, 3, 1, true},
		{rises, -100, 0, 2, -100, true},
		{falls, -32768, -32668, 3, -32768, true},
		{falls, 32667, 32767, 1, 32667, true},
		// One that has the greatest one alone, at the end, the start, and between.
		{mixed(), -5, 2, 8, 2, true},
		{mixed(), 1, 2, 8, 2, true},
		{mixed(), -5, 1, 6, 1, true},
		{program(body(set(2, -2), add(2, 0), jump(7, 2), jump(5, 0), exit(), say(0), say(0), exit())), -4, 9, 7, 1, true},
		// Runs that are spent.
		{mixed(), -5, 3, 0, 0, false},
		{mixed(), 3, 3, 0, 0, false},
		{mixed(), 2, 3, 0, 0, false},
		{program(body(call(0, 0))), -1, 1, 0, 0, false},
		{program(body(jump(0, 0))), -5, 0, 1, -5, true},
		{program(body(jump(0, 0))), -5, 1, 0, 0, false},
		// The last run alone is, the first one, and one between.
		{program(body(set(2, -5), add(2, 0), jump(2, 2))), -5, 6, 0, 0, false},
		{program(body(set(2, 5), add(2, 0), jump(5, 2), set(2, 1), jump(4, 2), exit())), -5, 5, 0, 0, false},
		{program(body(set(2, -1), add(2, 0), jump(6, 2), jump(3, 0), exit(), exit(), exit())), -1, 5, 0, 0, false},
		// As much as there is, and one more.
		{longest(), 1, 99, 200, 99, true},
		{longest(), 99, 99, 200, 99, true},
		{longest(), 1, 98, 198, 98, true},
		{longest(), 1, 100, 0, 0, false},
		{longest(), -100, 0, 4, -100, true},
	} {
		if most, arg, ok := checkMost(t, all.p, 0, all.low, all.high); most != all.most || arg != all.arg || ok != all.ok {
			t.Error("most", textByRule(all.p), all.low, all.high, most, arg, ok)
		}
	}
}

// checkCounts compares how many Events of each kind a run has with the model.
func checkCounts(t *testing.T, p impl.Program, f int, arg int, fuel int) [9]int {
	t.Helper()
	o, _ := modelOutcome(p, f, arg, fuel)
	var want [9]int
	for i := range want {
		want[i] = countKind(o.Trace, i+1)
	}
	counts, ok := impl.EventCounts(p, f, arg, fuel)
	if !ok || counts != want {
		t.Fatalf("%d of %s with %d and %d: %v %t, not %v", f, textByRule(p), arg, fuel, counts, ok, want)
	}
	return counts
}

func TestPromise11EventCountsAreThoseOfTheModel(t *testing.T) {
	var sums [9]int
	for i, p := range append(append(randomPrograms(117, 1500), recoveringPrograms(117, 1500)...), loopingPrograms(117, 500)...) {
		for f := range p.Functions {
			for kind, n := range checkCounts(t, p, f, edgeNumbers[(i+f)%len(edgeNumbers)], []int{200, 200, 60, 7, 0}[i%5]) {
				sums[kind] += n
			}
		}
	}
	if slices.Min(sums[:]) < 500 {
		t.Error("the runs are too much alike", sums)
	}
}

func TestPromise11EventCounts(t *testing.T) {
	for _, all := range []struct {
		name string
		p    impl.Program
		arg  int
		fuel int
		want [9]int
	}{
		{"nothing but a call", program(nil), 5, 0, [9]int{1, 0, 0, 0, 0, 0, 1, 0, 0}},
		{"without fuel", program(body(say(0))), 5, 0, [9]int{1, 0, 0, 0, 0, 0, 0, 0, 0}},
		{"two calls", program(body(call(1, 0), call(1, 0)), nil), 5, 200, [9]int{3, 0, 0, 0, 0, 0, 3, 0, 0}},
		{"deferred calls", stackProgram(), 3, 200, [9]int{1, 3, 3, 3, 0, 0, 4, 0, 0}},
		{"spent ahead of a deferred call", program(body(later(1, 0), later(1, 0), say(0)), body(say(0))), 3, 3, [9]int{1, 2, 1, 1, 0, 0, 0, 0, 0}},
		{"four are said", program(slices.Repeat(body(say(0)), 4)), 5, 200, [9]int{1, 0, 0, 4, 0, 0, 1, 0, 0}},
		{"a panic", program(body(throw(0))), 5, 200, [9]int{1, 0, 0, 0, 1, 0, 0, 1, 0}},
		{"a panic of a call", program(body(call(1, 0)), body(throw(0))), 5, 200, [9]int{2, 0, 0, 0, 1, 0, 0, 2, 0}},
		{"a recovery", program(body(later(1, 0), throw(0)), body(save(0), save(1))), 5, 200, [9]int{1, 1, 1, 0, 1, 1, 2, 0, 0}},
		{"an exit", program(body(exit())), 5, 200, [9]int{1, 0, 0, 0, 0, 0, 0, 0, 1}},
		{"an exit of a call", program(body(call(1, 0)), body(call(2, 0)), body(exit())), 5, 200, [9]int{3, 0, 0, 0, 0, 0, 0, 0, 3}},
		{"too deep", program(body(call(0, 0))), 5, 200, [9]int{8, 0, 0, 0, 0, 0, 0, 0, 0}},
		// Each kind another number of times: a recovered panic, and one that an exit follows.
		{"all kinds", program(body(later(1, 0), call(2, 0), exit()), body(say(0), say(0)), body(later(3, 0), later(1, 0), throw(0)), body(save(0), call(4, 0)), body(say(1))),
			5, 200, [9]int{3, 3, 3, 5, 1, 1, 5, 0, 1}},
	} {
		if counts := checkCounts(t, all.p, 0, all.arg, all.fuel); counts != all.want {
			t.Error(all.name, counts)
		}
	}
}

// traceByRule tells as chapter 11 says it whether a list is a trace. For each EventRun it looks back
// for the EventDefer that it has to do with, over as many as there are of EventRuns in between.
func traceByRule(list []impl.Event) bool {
	if len(list) == 0 || list[0].Kind != impl.EventCall {
		return false
	}
	var open []int // The places of the Events with which the open calls have begun.
	of := make([]int, len(list))
	for i, e := range list {
		if i > 0 && len(open) == 0 || e.Kind < 1 || e.Kind > 9 {
			return false
		}
		if i > 0 {
			of[i] = open[len(open)-1]
		}
		switch e.Kind {
		case impl.EventRun:
			j, over := i-1, 0
			for ; j > of[i]; j-- {
				if of[j] != of[i] {
					continue
				}
				if list[j].Kind == impl.EventDefer && over == 0 {
					break
				}
				if list[j].Kind == impl.EventDefer {
					over--
				}
				if list[j].Kind == impl.EventRun {
					over++
				}
			}
			if j <= of[i] || list[j].Function != e.Function || list[j].Value != e.Value {
				return false
			}
			open = append(open, i)
		case impl.EventCall:
			open = append(open, i)
		case impl.EventReturn, impl.EventUnwind, impl.EventExit:
			if list[of[i]].Function != e.Function {
				return false
			}
			open = open[:len(open)-1]
		}
	}
	return true
}

// checkTrace compares whether a list is a trace with its rule.
func checkTrace(t *testing.T, list []impl.Event) bool {
	t.Helper()
	is := impl.IsTrace(list)
	if is != traceByRule(list) {
		t.Fatalf("a trace: %t, of %v", is, list)
	}
	return is
}

func TestPromise11TheTraceOfEachRunIsOne(t *testing.T) {
	longest := 0
	for i, p := range append(append(randomPrograms(118, 2000), recoveringPrograms(118, 2000)...), loopingPrograms(118, 500)...) {
		for f := range p.Functions {
			o, _ := impl.RunProgram(p, f, edgeNumbers[(i+f)%len(edgeNumbers)], []int{200, 200, 60, 7, 0}[i%5])
			longest = max(longest, len(o.Trace))
			if !checkTrace(t, o.Trace) {
				t.Fatalf("no trace of %d of %s: %v", f, textByRule(p), o.Trace)
			}
			if !impl.IsTrace(o.Trace[:1+i%len(o.Trace)]) {
				t.Fatalf("no trace when it is not ended, of %d of %s: %v", f, textByRule(p), o.Trace[:1+i%len(o.Trace)])
			}
		}
	}
	if longest < 150 {
		t.Error("the traces are too short", longest)
	}
	for i, p := range recoveringPrograms(119, 100) {
		o, _ := impl.RunProgram(p, 0, i%5, 200)
		for n := range len(o.Trace) + 1 {
			if impl.IsTrace(o.Trace[:n]) != (n > 0) {
				t.Fatalf("a part of the trace of %s: %v", textByRule(p), o.Trace[:n])
			}
			// Behind its first Event there is the end of a call that has begun with it, unless it is spent.
			if rest := o.Trace[n:]; n > 0 && o.Kind != stops && checkTrace(t, rest) {
				t.Fatalf("the end of the trace of %s: %v", textByRule(p), rest)
			}
		}
	}
}

func TestPromise11ChangedTracesAreToldByTheirRule(t *testing.T) {
	r := rand.New(rand.NewPCG(120, 11))
	var traces, others int
	for _, p := range append(recoveringPrograms(120, 600), randomPrograms(120, 600)...) {
		o, _ := impl.RunProgram(p, r.IntN(len(p.Functions)), r.IntN(5)-1, []int{200, 40, 12}[r.IntN(3)])
		for range 40 {
			list := slices.Clone(o.Trace)
			for range 1 + r.IntN(3) {
				list = changedTrace(r, list)
			}
			if checkTrace(t, list) {
				traces++
			} else {
				others++
			}
		}
	}
	if min(traces, others) < 3000 {
		t.Error("the lists are too much alike", traces, others)
	}
}

// changedTrace returns a list with one change somewhere.
func changedTrace(r *rand.Rand, list []impl.Event) []impl.Event {
	if len(list) == 0 {
		return []impl.Event{called(r.IntN(2), 0)}
	}
	at, other := r.IntN(len(list)), r.IntN(len(list))
	switch r.IntN(9) {
	case 0:
		list[at].Kind = r.IntN(12) - 1
	case 1, 2:
		list[at].Kind = 1 + r.IntN(9)
	case 3:
		list[at].Function = r.IntN(7) - 1
	case 4:
		list[at].Value = r.IntN(5) - 2
	case 5:
		list = slices.Delete(list, at, at+1)
	case 6:
		list = slices.Insert(list, at, list[other])
	case 7:
		list = append(list, list[other])
	case 8:
		list[at], list[other] = list[other], list[at]
	}
	return list
}

func TestPromise11EachShortListIsToldByItsRule(t *testing.T) {
	choice := []impl.Event{called(0, 1), called(1, 1), waits(0, 1), waits(1, 1), runs(0, 1), runs(1, 1), returns(0, 1), unwinds(1, 1), exits(0), says(1, 2), {}}
	traces := 0
	for _, list := range listsOf(choice, 5) {
		if checkTrace(t, list) {
			traces++
		}
	}
	// Two calls are deferred in each of these.
	for _, list := range listsOf(choice[2:9], 5) {
		if checkTrace(t, append([]impl.Event{called(0, 0), waits(1, 1), waits(0, 1)}, list...)) {
			traces++
		}
	}
	if traces < 3000 {
		t.Error("the lists are too much alike", traces)
	}
}

// everyKind returns an Event of each kind, of the function 0 with the Value 7.
func everyKind() []impl.Event {
	var all []impl.Event
	for kind := 1; kind <= 9; kind++ {
		all = append(all, event(kind, 0, 7))
	}
	return all
}

func TestPromise11IsTrace(t *testing.T) {
	for name, one := range map[string]struct {
		list []impl.Event
		want bool
	}{
		"no Events":         {nil, false},
		"none, and no nil":  {[]impl.Event{}, false},
		"a call":            {[]impl.Event{called(0, 7)}, true},
		"a call that ends":  {[]impl.Event{called(0, 7), returns(0, 1)}, true},
		"a call that exits": {[]impl.Event{called(0, 7), exits(0)}, true},
		"by a panic":        {[]impl.Event{called(0, 7), throws(0, 7), unwinds(0, 7)}, true},
		"by no panic":       {[]impl.Event{called(0, 7), unwinds(0, 7)}, true},
		"any numbers":       {[]impl.Event{called(-7, math.MinInt), says(math.MaxInt, 99999), event(impl.EventExit, -7, 5)}, true},
		"of any functions":  {[]impl.Event{called(0, 7), says(1, 1), throws(2, 2), saves(3, 3), waits(9, 9), returns(0, 1)}, true},
		// Calls in calls.
		"a call in a call":        {[]impl.Event{called(0, 7), called(1, 7), returns(1, 1), returns(0, 1)}, true},
		"two calls in a call":     {[]impl.Event{called(0, 7), called(1, 7), exits(1), called(2, 7), unwinds(2, 1), returns(0, 1)}, true},
		"the same function":       {[]impl.Event{called(3, 7), called(3, 7), returns(3, 1), returns(3, 1)}, true},
		"the inner one not ended": {[]impl.Event{called(0, 7), called(1, 7)}, true},
		"the outer one not ended": {[]impl.Event{called(0, 7), called(1, 7), exits(1), says(0, 1)}, true},
		"the outer one first":     {[]impl.Event{called(0, 7), called(1, 7), returns(0, 1)}, false},
		"the outer one unwinds":   {[]impl.Event{called(0, 7), called(1, 7), unwinds(0, 1)}, false},
		"the outer one exits":     {[]impl.Event{called(0, 7), called(1, 7), exits(0)}, false},
		"the other way round":     {[]impl.Event{called(0, 7), called(1, 7), returns(0, 1), returns(1, 1)}, false},
		"the inner one again":     {[]impl.Event{called(0, 7), called(1, 7), returns(1, 1), returns(1, 1)}, false},
		"another function":        {[]impl.Event{called(0, 7), returns(1, 7)}, false},
		"of a deferred call":      {[]impl.Event{called(0, 7), waits(1, 7), runs(1, 7), returns(0, 1)}, false},
		// Events behind the end of the first call.
		"said behind it":     {[]impl.Event{called(0, 7), returns(0, 1), says(0, 1)}, false},
		"ended twice":        {[]impl.Event{called(0, 7), returns(0, 1), returns(0, 1)}, false},
		"called again":       {[]impl.Event{called(0, 7), returns(0, 1), called(0, 7)}, false},
		"called again, ends": {[]impl.Event{called(0, 7), exits(0), called(0, 7), exits(0)}, false},
		"run behind it":      {[]impl.Event{called(0, 7), waits(1, 7), returns(0, 1), runs(1, 7), returns(1, 1)}, false},
		"none behind it":     {[]impl.Event{called(0, 7), returns(0, 1), {}}, false},
		// Deferred calls.
		"run":                       {[]impl.Event{called(0, 7), waits(1, 5), runs(1, 5), returns(1, 0), returns(0, 1)}, true},
		"not run":                   {[]impl.Event{called(0, 7), waits(1, 5), returns(0, 1)}, true},
		"another function is run":   {[]impl.Event{called(0, 7), waits(1, 5), runs(2, 5)}, false},
		"another value is run":      {[]impl.Event{called(0, 7), waits(1, 5), runs(1, 6)}, false},
		"both are changed":          {[]impl.Event{called(0, 7), waits(1, 5), runs(5, 1)}, false},
		"none is deferred":          {[]impl.Event{called(0, 7), runs(1, 5)}, false},
		"zeros, none is deferred":   {[]impl.Event{called(0, 0), runs(0, 0)}, false},
		"run and then deferred":     {[]impl.Event{called(0, 7), runs(1, 5), waits(1, 5)}, false},
		"run twice":                 {[]impl.Event{called(0, 7), waits(1, 5), runs(1, 5), returns(1, 0), runs(1, 5)}, false},
		"the last one first":        {[]impl.Event{called(0, 7), waits(1, 5), waits(2, 6), runs(2, 6), exits(2), runs(1, 5), exits(1), exits(0)}, true},
		"the first one first":       {[]impl.Event{called(0, 7), waits(1, 5), waits(2, 6), runs(1, 5)}, false},
		"the first one behind it":   {[]impl.Event{called(0, 7), waits(1, 5), waits(2, 6), runs(2, 6), exits(2), runs(2, 6)}, false},
		"by value alone":            {[]impl.Event{called(0, 7), waits(1, 5), waits(1, 6), runs(1, 5)}, false},
		"the same twice":            {[]impl.Event{called(0, 7), waits(1, 5), waits(1, 5), runs(1, 5), exits(1), runs(1, 5), exits(1)}, true},
		"the same thrice":           {[]impl.Event{called(0, 7), waits(1, 5), waits(1, 5), runs(1, 5), exits(1), runs(1, 5), exits(1), runs(1, 5)}, false},
		"deferred behind one":       {[]impl.Event{called(0, 7), waits(1, 5), waits(2, 6), runs(2, 6), exits(2), waits(3, 1), runs(3, 1), exits(3), runs(1, 5)}, true},
		"deferred in a call":        {[]impl.Event{called(0, 7), called(1, 7), waits(2, 5), runs(2, 5), exits(2), exits(1), exits(0)}, true},
		"deferred outside":          {[]impl.Event{called(0, 7), waits(2, 5), called(1, 7), runs(2, 5)}, false},
		"deferred inside":           {[]impl.Event{called(0, 7), called(1, 7), waits(2, 5), exits(1), runs(2, 5)}, false},
		"deferred by both":          {[]impl.Event{called(0, 7), waits(2, 5), called(1, 7), waits(2, 6), runs(2, 6), exits(2), exits(1), runs(2, 5), exits(2), exits(0)}, true},
		"the other one's":           {[]impl.Event{called(0, 7), waits(2, 5), called(1, 7), waits(2, 6), exits(1), runs(2, 6)}, false},
		"in a deferred call":        {[]impl.Event{called(0, 7), waits(1, 5), runs(1, 5), waits(1, 5), runs(1, 5), exits(1), exits(1), exits(0)}, true},
		"outside a deferred call":   {[]impl.Event{called(0, 7), waits(2, 4), waits(1, 5), runs(1, 5), runs(2, 4)}, false},
		"called in a deferred call": {[]impl.Event{called(0, 7), waits(1, 5), runs(1, 5), called(2, 5), unwinds(2, 1), unwinds(1, 1), unwinds(0, 1)}, true},
		"any deferred ones":         {[]impl.Event{called(0, 7), waits(-5, math.MaxInt), runs(-5, math.MaxInt), exits(-5)}, true},
	} {
		if is := checkTrace(t, one.list); is != one.want {
			t.Error(name, is)
		}
	}
}

func TestPromise11EventsOfEachKind(t *testing.T) {
	for _, e := range everyKind() {
		if impl.IsTrace([]impl.Event{e}) != (e.Kind == impl.EventCall) || impl.IsTrace([]impl.Event{e, returns(0, 1)}) != (e.Kind == impl.EventCall) {
			t.Error("begins with", e)
		}
		if impl.IsTrace([]impl.Event{called(0, 1), e}) != (e.Kind != impl.EventRun) || !impl.IsTrace([]impl.Event{called(0, 1), waits(0, 7), e}) {
			t.Error("goes on with", e)
		}
		if impl.IsTrace([]impl.Event{called(0, 1), returns(0, 1), e}) || impl.IsTrace([]impl.Event{called(0, 1), waits(0, 7), exits(0), e}) {
			t.Error("goes on behind the end with", e)
		}
		// What ends a call of another function.
		if ends := e.Kind >= impl.EventReturn; impl.IsTrace([]impl.Event{called(1, 1), waits(0, 7), e}) == ends {
			t.Error("in another function", e)
		}
	}
	for _, kind := range []int{math.MinInt, -1 << 32, -1, 0, 10, 11, 14, 256, 257, 1<<32 + 1, 1<<32 + 7, math.MaxInt} {
		list := []impl.Event{called(0, 1), waits(1, 2), runs(1, 2), says(1, 3), returns(1, 0), returns(0, 0)}
		for at := range len(list) + 1 {
			for _, f := range []int{0, 1} {
				if impl.IsTrace(slices.Insert(slices.Clone(list), at, event(kind, f, 2))) || impl.IsTrace(append(slices.Clone(list[:at]), event(kind, f, 2))) {
					t.Error("of no kind", kind, at)
				}
			}
			if at < len(list) {
				changed := slices.Clone(list)
				changed[at].Kind = kind
				if impl.IsTrace(changed) {
					t.Error("changed to no kind", kind, at)
				}
			}
		}
	}
}

func TestPromise11DeadStepsAreMadeInNoRun(t *testing.T) {
	var dead, made int
	for i, p := range append(append(randomPrograms(121, 1500), exchangingPrograms(121, 1000)...), loopingPrograms(121, 1000)...) {
		list, ok := impl.LintProgram(p)
		if !ok {
			t.Fatal("not lint", textByRule(p))
		}
		for f := range p.Functions {
			arg := edgeNumbers[(i+f)%len(edgeNumbers)]
			places, one := impl.MadePlaces(p, f, arg, 200)
			never, two := impl.NeverMade(p, f, arg, min(arg+5, 32767), 200)
			if !one || !two {
				t.Fatal("no run", textByRule(p), f, arg)
			}
			made += len(places)
			for _, one := range list {
				if one.Rule != impl.LintDead {
					continue
				}
				dead++
				if place := [2]int{one.Function, one.Place}; slices.Contains(places, place) || !slices.Contains(never, place) {
					t.Fatalf("dead, and made: %v of %s by %d with %d", place, textByRule(p), f, arg)
				}
			}
		}
	}
	if min(dead, made) < 5000 {
		t.Error("the programs are too much alike", dead, made)
	}
}

func TestPromise11WithoutRecursionNoRunIsDeep(t *testing.T) {
	var depths [9]int
	deeper := 0
	for _, p := range append(onwardPrograms(122, 2500), randomPrograms(122, 1000)...) {
		list, _ := impl.LintProgram(p)
		cyclic := slices.ContainsFunc(list, func(one impl.Finding) bool { return one.Rule == impl.LintRecursion })
		for f := range p.Functions {
			for _, arg := range []int{-1, 1} {
				deep, ok := impl.DeepestCall(p, f, arg, 200)
				if !ok || !cyclic && deep > impl.MaxFunctions {
					t.Fatalf("as deep as %d without recursion: %d of %s", deep, f, textByRule(p))
				}
				if !cyclic {
					depths[deep]++
				} else if deep > impl.MaxFunctions {
					deeper++
				}
			}
		}
	}
	if slices.Min(depths[1:6]) < 100 || depths[6] < 10 || deeper < 100 {
		t.Error("the programs are too much alike", depths, deeper)
	}
	line := program(body(later(1, 0)), body(call(2, 0)), body(later(3, 0)), body(call(4, 0)), body(later(5, 0)), nil)
	if deep, ok := impl.DeepestCall(line, 0, 0, 200); !ok || deep != impl.MaxFunctions || len(checkLint(t, line)) != 0 {
		t.Error("as deep as there are functions", deep, ok)
	}
}

// proofAnswers asks all functions of chapter 11 that need a Program, and returns whether they do not
// fail, and how much they tell.
func proofAnswers(p impl.Program, f int, at int, arg int, high int, fuel int, kind int) ([8]bool, [8]int) {
	leads, one := impl.LeadsTo(p, f, at)
	open, two := impl.OpenPlaces(p, f)
	list, three := impl.LintProgram(p)
	made, four := impl.MadePlaces(p, f, arg, fuel)
	never, five := impl.NeverMade(p, f, arg, high, fuel)
	first, six := impl.AlwaysEnds(p, f, arg, high, kind)
	most, least, seven := impl.MostFuel(p, f, arg, high)
	counts, eight := impl.EventCounts(p, f, arg, fuel)
	size := [8]int{len(leads), len(open), len(list), len(made), len(never), first, most*100000 + least}
	for i, n := range counts {
		size[7] += (i + 1) * n
	}
	return [8]bool{one, two, three, four, five, six, seven, eight}, size
}

func TestPromise11PlacesRefuseOthers(t *testing.T) {
	full := slices.Repeat(body(say(0)), 8)
	p := program(body(jump(0, 0), say(1)), nil, full)
	for _, f := range farNumbers {
		size, function := 0, 0 <= f && f < 3
		if function {
			size = len(p.Functions[f])
		}
		for _, at := range farNumbers {
			leads, ok := impl.LeadsTo(p, f, at)
			if place := 0 <= at && at < size; ok != place || !place && len(leads) != 0 || place && len(leads) == 0 {
				t.Error("at", f, at, leads, ok)
			}
		}
		if open, ok := impl.OpenPlaces(p, f); ok != function || len(open) != size {
			t.Error("of", f, open, ok)
		}
	}
}

func TestPromise11RunsAndRangesRefuseOthers(t *testing.T) {
	p := program(body(say(0), exit()), nil)
	for _, low := range rangeEnds {
		for _, high := range rangeEnds {
			for _, f := range []int{math.MinInt, -1, 0, 1, 2, 1 << 32, math.MaxInt} {
				for _, fuel := range []int{math.MinInt, -1, 0, 1, 200, 201, 1 << 32, math.MaxInt} {
					function := f == 0 || f == 1
					run := function && -32768 <= low && low <= 32767 && 0 <= fuel && fuel <= 200
					all := function && validRange(low, high)
					ok, size := proofAnswers(p, f, 0, low, high, fuel, leaves)
					if [5]bool(ok[3:]) != [5]bool{run, all && run, all, all, run} {
						t.Fatal("runs", f, low, high, fuel, ok)
					}
					for i, fine := range ok {
						if !fine && size[i] != 0 {
							t.Fatal("fails and tells", f, low, high, fuel, i, size)
						}
					}
				}
			}
		}
	}
	if ok, size := proofAnswers(p, 0, 0, 3, 5, 200, leaves); ok != [8]bool{true, true, true, true, true, true, true, true} || size != [8]int{1, 2, 1, 2, 0, 6, 200003, 14} {
		t.Error("a range", ok, size)
	}
}

func TestPromise11KindsRefuseOthers(t *testing.T) {
	for f, p := range []impl.Program{program(nil), program(body(throw(0))), program(body(exit())), program(body(call(0, 0)))} {
		for _, kind := range []int{math.MinInt, -1 << 32, -1, 0, 1, 2, 3, 4, 5, 6, 9, 1<<32 + 1, math.MaxInt} {
			want, valid := -2, 1 <= kind && kind <= 4
			if kind == f+1 {
				want = 3
			}
			if !valid {
				want = 0
			}
			if arg, ok := impl.AlwaysEnds(p, 0, -2, 2, kind); ok != valid || arg != want {
				t.Error("always", textByRule(p), kind, arg, ok)
			}
			if arg, ok := impl.AlwaysEnds(p, 0, 2, -2, kind); ok || arg != 0 {
				t.Error("no range", textByRule(p), kind, arg, ok)
			}
		}
	}
}

func TestPromise13WhatIsNoProgramIsNotProved(t *testing.T) {
	for i, p := range invalidPrograms() {
		for _, f := range farNumbers {
			for kind := back; kind <= stops; kind++ {
				if ok, size := proofAnswers(p, f, 0, 0, 1, 9, kind); ok != [8]bool{} || size != [8]int{} {
					t.Error("what is told of no program", i, f, kind, ok, size)
				}
			}
		}
	}
}

func TestPromise13ProofsReturnForAllNumbers(t *testing.T) {
	edges := []int{math.MinInt, math.MinInt + 1, -32769, -32768, -1, 0, 1, 4, 200, 32767, 32768, math.MaxInt - 1, math.MaxInt}
	for _, p := range []impl.Program{{}, mixed(), stackProgram(), program(body(call(0, 0)), nil), program(nil, body(exit(), impl.Step{Kind: math.MinInt}))} {
		for _, a := range edges {
			for _, b := range edges {
				for _, c := range edges {
					one, first := proofAnswers(p, a, b, b, c, a, c)
					two, second := proofAnswers(p, a, b, b, c, a, c)
					if one != two || first != second {
						t.Fatal("other answers", textByRule(p), a, b, c, one, two, first, second)
					}
					for i, ok := range one {
						if !ok && first[i] != 0 {
							t.Fatal("fails and tells", textByRule(p), a, b, c, i, first[i])
						}
					}
					proofAnswers(p, 0, b, a, b, c, a)
					impl.IsTrace([]impl.Event{{}, event(a, b, c)})
					checkTrace(t, []impl.Event{called(a, b), event(b, a, c), event(c, a, b), event(a, b, c)})
				}
			}
		}
	}
}

func TestPromise13LongListsOfEvents(t *testing.T) {
	const size = 1 << 18
	deep := slices.Repeat([]impl.Event{called(3, 1)}, size)
	ended := append(slices.Clone(deep), slices.Repeat([]impl.Event{exits(3)}, size)...)
	deferred := append([]impl.Event{called(3, 1)}, slices.Repeat([]impl.Event{waits(4, 1)}, size)...)
	run := append(slices.Clone(deferred), slices.Repeat([]impl.Event{runs(4, 1), returns(4, 0)}, size)...)
	for name, list := range map[string][]impl.Event{"deep": deep, "ended": ended, "deferred": deferred, "run": run,
		"said": append([]impl.Event{called(3, 1)}, slices.Repeat([]impl.Event{says(3, 1)}, size)...)} {
		if !impl.IsTrace(list) || !impl.IsTrace(list[:len(list)-1]) {
			t.Error("no trace", name)
		}
		if impl.IsTrace(list[1:]) != (list[1].Kind == impl.EventCall && name == "deep") || impl.IsTrace(append(slices.Clone(list), event(10, 3, 1))) {
			t.Error("a trace", name)
		}
	}
	for name, list := range map[string][]impl.Event{"one more end": append(ended, exits(3)), "one more run": append(run, runs(4, 1)), "zeros": make([]impl.Event, size)} {
		if impl.IsTrace(list) {
			t.Error("a trace", name)
		}
	}
}

func TestPromise13ProofsModifyNothing(t *testing.T) {
	programs := append(loopingPrograms(123, 200), recoveringPrograms(123, 100)...)
	for i, p := range append(programs, invalidPrograms()[:22]...) {
		checkUnmodified(t, p, func(given impl.Program) {
			for f := -1; f <= len(p.Functions); f++ {
				for at := -1; at <= impl.MaxBody; at++ {
					one, first := proofAnswers(given, f, at, -1, 2, 60, 1+i%4)
					two, second := proofAnswers(given, f, at, -1, 2, 60, 1+i%4)
					if one != two || first != second {
						t.Fatalf("other answers of %s", textByRule(p))
					}
				}
			}
		})
		o, _ := impl.RunProgram(p, 0, 2, 60)
		// Behind the list there is memory that is not its own.
		list := append(slices.Clone(o.Trace), says(1, 1), event(99, 9, 9))
		before := slices.Clone(list)
		if is := impl.IsTrace(list[:len(o.Trace)]); is != impl.IsTrace(list[:len(o.Trace)]) || !slices.Equal(list, before) {
			t.Fatalf("modified %v: %v", before, list)
		}
	}
}

// checkApart tells lists again and again, and checks that they share no memory with each other.
func checkApart[T comparable](t *testing.T, tell func() ([]T, bool)) {
	t.Helper()
	first, one := tell()
	second, two := tell()
	want := slices.Clone(second)
	clear(first[:cap(first)])
	third, three := tell()
	if !one || !two || !three || !slices.Equal(second, want) || !slices.Equal(third, want) || len(want) == 0 {
		t.Error("lists share memory", second, third)
	}
}

func TestPromise13ListsOfProofsAreApart(t *testing.T) {
	p := program(body(jump(2, 0), exit(), later(1, 0), jump(2, 0), exit()), body(save(0), outer(1)), body(outer(3), save(2)))
	checkListsApart(t,
		func() ([]int, bool) { return impl.LeadsTo(p, 0, 3) },
		func() ([]int, bool) { return impl.OpenPlaces(p, 0) },
	)
	checkApart(t, func() ([]impl.Finding, bool) { return impl.LintProgram(p) })
	checkApart(t, func() ([][2]int, bool) { return impl.MadePlaces(p, 0, 1, 200) })
	checkApart(t, func() ([][2]int, bool) { return impl.NeverMade(p, 0, 1, 5, 200) })
}
