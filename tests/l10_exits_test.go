package tests

import (
	"math"
	"math/rand/v2"
	"slices"
	"testing"

	"loop.example/g01183/impl"
)

const modeAll, modeFirst, modeEach = impl.ModeAll, impl.ModeFirst, impl.ModeEach

var modes = []int{modeAll, modeFirst, modeEach}

// job returns a Job of a function with an argument.
func job(f int, arg int) impl.Job { return impl.Job{Function: f, Arg: arg} }

// session returns a Session with a Mode, Jobs and Hooks.
func session(mode int, jobs []impl.Job, hooks ...int) impl.Session {
	return impl.Session{Jobs: jobs, Hooks: hooks, Mode: mode}
}

func jobs(list ...impl.Job) []impl.Job { return list }

// clerks returns a Program of six functions: 0 says its argument, and returns it, 1 panics with it,
// 2 exits, 3 spends all, 4 lets the shared number grow by 1, says it, and returns it, and 5 keeps
// its argument, and returns 0.
func clerks() impl.Program {
	return program(body(say(0), give(0)), body(throw(0)), body(exit()), body(set(2, 1), jump(1, 2)),
		body(take(1), set(2, 1), add(1, 2), keep(1), say(1)), body(keep(0)))
}

// badEnds are the Kinds and the codes of the runs of clerks that do not return, by their functions.
var badEnds = [4][2]int{1: {impl.OutPanicked, 2}, 2: {impl.OutExited, 0}, 3: {impl.OutSpent, 124}}

// sharingPrograms returns valid Programs, always the same ones for the same seed: what their
// functions do turns on whether the shared number, or the argument, is greater than 0, and many of
// them leave another shared number.
func sharingPrograms(seed uint64, count int) []impl.Program {
	r := rand.New(rand.NewPCG(seed, 10))
	all := make([]impl.Program, count)
	for i := range all {
		functions := 1 + r.IntN(impl.MaxFunctions)
		for range functions {
			next := r.IntN(functions)
			ways := [][]impl.Step{{keep(0), give(0)}, {keep(0)}, {set(3, r.IntN(5)-2), keep(3), give(3)}, {add(2, 0), keep(2), give(2)},
				{say(0), give(0)}, {take(3), say(3), give(3)}, {keep(0), throw(0)}, {throw(2)}, {keep(0), exit()}, {say(2), exit()}, {exit()},
				{call(next, 2), give(2)}, {later(next, 0), keep(3)}, {later(next, 2), exit()}, {set(3, 1), keep(3), jump(2, 3)}}
			first, second := ways[r.IntN(len(ways))], ways[r.IntN(len(ways))]
			b := body(take(2), jump(2+len(first), 2*r.IntN(2)))
			all[i].Functions = append(all[i].Functions, append(append(b, first...), second...))
		}
	}
	return all
}

func TestPromise10WhatTestProgramsDo(t *testing.T) {
	for f, want := range []impl.Outcome{{Kind: back, Value: 7, Spent: 2}, {Kind: panics, Value: 7, Spent: 1}, {Kind: leaves, Spent: 1},
		{Kind: stops, Spent: 200}, {Kind: back, Value: 1, Spent: 5}, {Kind: back, Spent: 1}} {
		if o, ok := impl.RunProgram(clerks(), f, 7, 200); !ok || o.Kind != want.Kind || o.Value != want.Value || o.Spent != want.Spent {
			t.Error("clerks", f, o, ok)
		}
	}
	for _, p := range sharingPrograms(100, 500) {
		if !impl.IsProgram(p) {
			t.Error("no program", textByRule(p))
		}
	}
}

// codeByRule returns the code of an Outcome as chapter 10 says it.
func codeByRule(o impl.Outcome) int {
	if o.Kind != back {
		return map[int]int{panics: 2, leaves: 0, stops: 124}[o.Kind]
	}
	for code := range 256 {
		if (o.Value-code)%256 == 0 {
			return code
		}
	}
	return -1
}

// checkExits compares what is told of a run by its own with the model.
func checkExits(t *testing.T, p impl.Program, f int, arg int, fuel int) (int, []int) {
	t.Helper()
	m := modelOf(p, f, arg, fuel)
	code, one := impl.CodeOf(p, f, arg, fuel)
	path, two := impl.ExitPath(p, f, arg, fuel)
	if !one || !two || code != codeByRule(m.out) || !slices.Equal(path, m.exiting) {
		t.Fatalf("%d of %s with %d and %d: %d %v %t %t, not %d %v", f, textByRule(p), arg, fuel, code, path, one, two, codeByRule(m.out), m.exiting)
	}
	if last := len(path) - 1; m.out.Kind == leaves && (last < 0 || path[last] != f) || code < 0 || code > 255 {
		t.Fatalf("no code, or no path of an exit: %d of %s with %d and %d: %d %v", f, textByRule(p), arg, fuel, code, path)
	}
	return code, path
}

func TestPromise10ExitsAreAsTheModel(t *testing.T) {
	var none, single, more, other int
	for i, p := range append(append(randomPrograms(101, 1500), recoveringPrograms(101, 1500)...), sharingPrograms(101, 1500)...) {
		for f := range p.Functions {
			arg := edgeNumbers[(i+f)%len(edgeNumbers)]
			_, path := checkExits(t, p, f, arg, []int{200, 200, 60, 7}[i%4])
			o, _ := modelOutcome(p, f, arg, []int{200, 200, 60, 7}[i%4])
			switch {
			case len(path) == 0:
				none++
			case o.Kind != leaves:
				other++
			case len(path) == 1:
				single++
			default:
				more++
			}
		}
	}
	if min(none, single, more, other) < 100 {
		t.Error("the exits are too much alike", none, single, more, other)
	}
}

func TestPromise10EachFuel(t *testing.T) {
	for i, p := range append(recoveringPrograms(102, 40), sharingPrograms(102, 40)...) {
		for fuel := range impl.MaxFuel + 1 {
			checkExits(t, p, 0, edgeNumbers[i%len(edgeNumbers)], fuel)
		}
	}
}

func TestPromise10CodesOfResults(t *testing.T) {
	p := program(body(give(0)))
	for arg := -32768; arg <= 32767; arg++ {
		want := arg
		for want < 0 {
			want += 256
		}
		for want >= 256 {
			want -= 256
		}
		if code, ok := impl.CodeOf(p, 0, arg, 1); !ok || code != want {
			t.Fatal("code", arg, code, ok)
		}
	}
	for arg, want := range map[int]int{0: 0, 1: 1, 2: 2, 124: 124, 254: 254, 255: 255, 256: 0, 257: 1, 511: 255, 512: 0, 32767: 255,
		-1: 255, -2: 254, -132: 124, -254: 2, -255: 1, -256: 0, -257: 255, -512: 0, -32767: 1, -32768: 0} {
		if code, ok := impl.CodeOf(p, 0, arg, 200); !ok || code != want {
			t.Error("code", arg, code, ok)
		}
	}
}

func TestPromise10CodesOfOtherEnds(t *testing.T) {
	p := clerks()
	for _, arg := range edgeNumbers {
		for f := 1; f <= 3; f++ {
			if code, ok := impl.CodeOf(p, f, arg, 200); !ok || code != badEnds[f][1] {
				t.Error("code", f, arg, code, ok)
			}
		}
		// A run that is spent has this code whatever it would end by.
		for f := range p.Functions {
			if code, ok := impl.CodeOf(p, f, arg, 0); !ok || code != 124 {
				t.Error("code without fuel", f, arg, code, ok)
			}
		}
		if code, ok := impl.CodeOf(program(nil), 0, arg, 0); !ok || code != 0 {
			t.Error("code of nothing to do", arg, code, ok)
		}
	}
	// The code is that by which the run ends, not that of its calls.
	for _, all := range []struct {
		p    impl.Program
		code int
	}{
		{program(body(later(1, 0), throw(0)), body(save(0), outer(0))), 7},
		{program(body(later(1, 0), throw(0)), body(exit())), 0},
		{program(body(later(1, 0), exit()), body(throw(0))), 2},
		{program(body(later(1, 0), set(1, 9)), body(set(2, 1), jump(1, 2))), 124},
		{program(body(call(0, 0))), 124},
	} {
		if code, ok := impl.CodeOf(all.p, 0, 7, 200); !ok || code != all.code {
			t.Error("code", textByRule(all.p), code, ok, all.code)
		}
	}
}

func TestPromise10ExitPaths(t *testing.T) {
	deep := body(jump(2, 0), exit(), set(2, -1), add(0, 2), call(0, 0))
	for _, all := range []struct {
		name      string
		p         impl.Program
		arg, fuel int
		kind      int
		path      []int
	}{
		{"no exit", program(body(say(0))), 0, 200, back, nil},
		{"no Steps", program(nil), 0, 0, back, nil},
		{"a panic", program(body(throw(0))), 0, 200, panics, nil},
		{"at once", program(body(exit())), 0, 200, leaves, []int{0}},
		{"without the fuel for it", program(body(exit())), 0, 0, stops, nil},
		{"in a call", program(body(call(1, 0), say(0)), body(exit())), 0, 200, leaves, []int{1, 0}},
		{"in a call of a call", program(body(call(2, 0)), body(exit()), body(call(1, 0))), 0, 200, leaves, []int{1, 2, 0}},
		// Calls that exit inside of deferred calls.
		{"in a deferred call", program(body(later(1, 0), say(0)), body(exit())), 0, 200, leaves, []int{1, 0}},
		{"in two deferred calls", program(body(later(1, 0), later(2, 0)), body(exit()), body(exit())), 0, 200, leaves, []int{2, 1, 0}},
		{"in a call of a deferred call", program(body(later(1, 0)), body(call(2, 0)), body(exit())), 0, 200, leaves, []int{2, 1, 0}},
		{"in a deferred call of a deferred call", program(body(later(2, 0)), body(exit()), body(later(1, 0))), 0, 200, leaves, []int{1, 2, 0}},
		{"in a deferred call of a call", program(body(call(2, 0)), body(exit()), body(later(1, 0))), 0, 200, leaves, []int{1, 2, 0}},
		{"in a deferred call of one that exits", program(body(later(1, 0), exit()), body(exit())), 0, 200, leaves, []int{1, 0}},
		{"in a deferred call of one that panics", program(body(later(1, 0), throw(0)), body(exit())), 0, 200, leaves, []int{1, 0}},
		{"with another deferred call that returns", program(body(later(2, 0), later(1, 0), later(2, 0)), body(exit()), nil), 0, 200, leaves, []int{1, 0}},
		{"with one that panics behind it", program(body(later(2, 0), later(1, 0)), body(exit()), body(throw(0))), 0, 200, panics, []int{1}},
		{"with one that panics ahead of it", program(body(later(1, 0), later(2, 0)), body(exit()), body(throw(0))), 0, 200, leaves, []int{1, 0}},
		// Exits that panics have replaced.
		{"replaced", program(body(later(1, 0), exit()), body(throw(0))), 0, 200, panics, nil},
		{"in a call, and replaced", program(body(later(2, 0), call(1, 0)), body(exit()), body(throw(0))), 0, 200, panics, []int{1}},
		{"replaced and taken up again", program(body(later(2, 0), later(1, 0), exit()), body(throw(0)), body(save(0))), 0, 200, leaves, []int{0}},
		{"replaced in a call and taken up again outside", program(body(later(3, 0), call(1, 0)), body(later(2, 0), exit()), body(throw(0)), body(save(0))), 0, 200, leaves, []int{0}},
		// The same function again and again.
		{"as deep as its argument", program(deep), 3, 200, leaves, []int{0, 0, 0, 0}},
		{"as deep as there may be", program(deep), 7, 200, leaves, slices.Repeat([]int{0}, 8)},
		{"deeper", program(deep), 8, 200, stops, nil},
		// Runs that are spent behind some exits.
		{"spent in a deferred call", program(body(later(2, 0), call(1, 0)), body(exit()), body(set(2, 1), jump(1, 2))), 0, 200, stops, []int{1}},
		{"spent in a deferred call of the first one", program(body(later(2, 0), later(1, 0)), body(exit()), body(say(0))), 0, 3, stops, []int{1}},
		{"just not spent in it", program(body(later(2, 0), later(1, 0)), body(exit()), body(say(0))), 0, 4, leaves, []int{1, 0}},
	} {
		_, path := checkExits(t, all.p, 0, all.arg, all.fuel)
		o, _ := impl.RunProgram(all.p, 0, all.arg, all.fuel)
		if o.Kind != all.kind || !slices.Equal(path, all.path) {
			t.Error(all.name, path, o.Kind)
		}
	}
}

// checkExiting compares the arguments of a range with which a run exits with the model.
func checkExiting(t *testing.T, p impl.Program, f int, low int, high int, fuel int) []int {
	t.Helper()
	var want []int
	for arg := low; arg <= high; arg++ {
		if o, _ := modelOutcome(p, f, arg, fuel); o.Kind == leaves {
			want = append(want, arg)
		}
	}
	args, ok := impl.ExitingArgs(p, f, low, high, fuel)
	if !ok || !slices.Equal(args, want) {
		t.Fatalf("%d of %s from %d to %d with %d: %v %t, not %v", f, textByRule(p), low, high, fuel, args, ok, want)
	}
	return args
}

func TestPromise10RangesAreThoseOfTheModel(t *testing.T) {
	part := 0
	for i, p := range append(randomPrograms(103, 300), decidingPrograms(103, 1200)...) {
		for f := range p.Functions {
			low := []int{-5, -32768, 32750, edgeNumbers[i%len(edgeNumbers)] / 2}[(i+f)%4]
			high := low + i%13
			if args := checkExiting(t, p, f, low, high, []int{200, 60, 7}[i%3]); len(args) > 0 && len(args) <= high-low {
				part++
			}
		}
	}
	if part < 100 {
		t.Error("too few ranges exit in part", part)
	}
}

func TestPromise10RangesOfArguments(t *testing.T) {
	// It exits with arguments up to 0.
	p := program(body(jump(2, 0), exit(), say(0)))
	every := program(body(exit()))
	for _, all := range []struct {
		p               impl.Program
		low, high, fuel int
		want            []int
	}{
		// Ranges of one argument.
		{p, 0, 0, 200, []int{0}},
		{p, 1, 1, 200, nil},
		{p, 0, 0, 2, []int{0}},
		{p, 0, 0, 1, nil},
		{every, -32768, -32768, 1, []int{-32768}},
		{every, 32767, 32767, 1, []int{32767}},
		{every, 32767, 32767, 0, nil},
		// Ranges of MaxRange + 1 arguments.
		{p, -50, 50, 200, numbers(-50, 0)},
		{p, -100, 0, 200, numbers(-100, 0)},
		{p, 1, 101, 200, nil},
		{every, -32768, -32668, 200, numbers(-32768, -32668)},
		{every, 32667, 32767, 200, numbers(32667, 32767)},
		{every, -100, 0, 0, nil},
		// Those that return, panic or are spent are not among them.
		{mixed(), -50, 50, 200, []int{1}},
		{mixed(), -50, 50, 6, []int{1}},
		{mixed(), -50, 50, 5, nil},
		{program(body(throw(0))), -50, 50, 200, nil},
		{program(body(call(0, 0))), -50, 50, 200, nil},
		{program(body(later(1, 0), throw(0)), body(jump(2, 0), exit(), say(0))), -3, 3, 200, numbers(-3, 0)},
	} {
		if args := checkExiting(t, all.p, 0, all.low, all.high, all.fuel); !slices.Equal(args, all.want) {
			t.Error("range", textByRule(all.p), all.low, all.high, all.fuel, args)
		}
	}
	for _, ends := range [][2]int{{0, 101}, {-51, 50}, {4, 3}, {32767, -32768}, {-32768, 32767}, {-32769, -32700}, {32700, 32768}} {
		if args, ok := impl.ExitingArgs(every, 0, ends[0], ends[1], 200); ok || len(args) != 0 {
			t.Error("no range", ends, args, ok)
		}
	}
}

func TestPromise10RangesRefuseOthers(t *testing.T) {
	p := program(body(exit()), nil)
	for _, low := range rangeEnds {
		for _, high := range rangeEnds {
			for _, f := range []int{math.MinInt, -1, 0, 1, 2, math.MaxInt} {
				for _, fuel := range []int{math.MinInt, -1, 0, 1, 200, 201, math.MaxInt} {
					want := validRange(low, high) && (f == 0 || f == 1) && 0 <= fuel && fuel <= 200
					count := 0
					if want && f == 0 && fuel > 0 {
						count = high - low + 1
					}
					if args, ok := impl.ExitingArgs(p, f, low, high, fuel); ok != want || len(args) != count {
						t.Error("range", f, low, high, fuel, ok, len(args))
					}
				}
			}
		}
	}
}

// checkFrom compares a run that begins with a shared number with the model.
func checkFrom(t *testing.T, p impl.Program, f int, arg int, fuel int, shared int) (impl.Outcome, int) {
	t.Helper()
	m := modelFrom(p, f, arg, fuel, shared)
	o, left, ok := impl.RunFrom(p, f, arg, fuel, shared)
	if !ok || !sameOutcome(o, m.out) || left != m.shared {
		t.Fatalf("%d of %s with %d and %d from %d: %v %d %t, not %v %d", f, textByRule(p), arg, fuel, shared, o, left, ok, m.out, m.shared)
	}
	return o, left
}

func TestPromise10RunsFromSharedNumbersAreThoseOfTheModel(t *testing.T) {
	var same, left, turned int
	for i, p := range append(append(randomPrograms(104, 800), recoveringPrograms(104, 300)...), sharingPrograms(104, 800)...) {
		for f := range p.Functions {
			fuel := []int{200, 200, 60, 7}[i%4]
			arg := edgeNumbers[(i+f)%len(edgeNumbers)]
			zero, _ := checkFrom(t, p, f, arg, fuel, 0)
			if o, ok := impl.RunProgram(p, f, arg, fuel); !ok || !sameOutcome(o, zero) {
				t.Fatalf("RunProgram begins with another number than 0: %d of %s with %d and %d", f, textByRule(p), arg, fuel)
			}
			for _, shared := range edgeNumbers {
				o, last := checkFrom(t, p, f, arg, fuel, shared)
				if last == shared {
					same++
				} else {
					left++
				}
				if !sameOutcome(o, zero) {
					turned++
				}
				// What it leaves is where the next run begins.
				checkFrom(t, p, f, arg, fuel, last)
			}
		}
	}
	if min(same, left, turned) < 3000 {
		t.Error("the shared numbers are too much alike", same, left, turned)
	}
}

func TestPromise10EachFuelFromASharedNumber(t *testing.T) {
	for i, p := range sharingPrograms(105, 60) {
		for fuel := range impl.MaxFuel + 1 {
			checkFrom(t, p, 0, edgeNumbers[i%len(edgeNumbers)], fuel, edgeNumbers[i%7])
		}
	}
}

func TestPromise10RunsFromSharedNumbers(t *testing.T) {
	takes := body(take(1))
	grows := body(take(2), add(2, 0), keep(2))
	for _, all := range []struct {
		name                string
		p                   impl.Program
		arg, fuel, shared   int
		kind, value, remain int
	}{
		{"takes the least one", program(takes), 3, 200, -32768, back, -32768, -32768},
		{"takes the greatest one", program(takes), 3, 200, 32767, back, 32767, 32767},
		{"takes 0", program(takes), 3, 200, 0, back, 0, 0},
		{"no Steps, the least one", program(nil), 3, 0, -32768, back, 0, -32768},
		{"no Steps, the greatest one", program(nil), 3, 0, 32767, back, 0, 32767},
		{"keeps the greatest one", program(body(keep(0))), 32767, 200, -32768, back, 0, 32767},
		{"keeps the least one", program(body(keep(0))), -32768, 200, 32767, back, 0, -32768},
		{"keeps 0", program(body(keep(0))), 0, 200, 5, back, 0, 0},
		{"beyond the greatest one", program(grows), 1, 200, 32767, back, 0, -32768},
		{"beyond the least one", program(grows), -1, 200, -32768, back, 0, 32767},
		{"grows", program(grows), 4, 200, 5, back, 0, 9},
		// However a run ends, it leaves what it has kept by then.
		{"panics", program(body(keep(0), throw(0))), 4, 200, 5, panics, 4, 4},
		{"panics before", program(body(throw(0), keep(0))), 4, 200, 5, panics, 4, 5},
		{"exits", program(body(keep(0), exit())), 4, 200, 5, leaves, 0, 4},
		{"exits before", program(body(exit(), keep(0))), 4, 200, 5, leaves, 0, 5},
		{"returns before", program(body(give(0), keep(0))), 4, 200, 5, back, 4, 5},
		{"is spent", program(body(keep(0), say(0))), 4, 1, 5, stops, 0, 4},
		{"is spent before", program(body(say(0), keep(0))), 4, 1, 5, stops, 0, 5},
		{"has no fuel", program(body(keep(0))), 4, 0, 5, stops, 0, 5},
		{"goes too deep", program(body(keep(0), call(0, 0))), 4, 200, 5, stops, 0, 4},
		{"goes round and round", program(body(set(2, 1), keep(2), jump(1, 2))), 4, 200, 5, stops, 0, 1},
		// All calls have it in common.
		{"a call", program(body(call(1, 0), take(1)), grows), 4, 200, 5, back, 9, 9},
		{"a deferred call", program(body(later(1, 0), take(1)), grows), 4, 200, 5, back, 5, 9},
		{"two deferred calls", program(body(later(1, 0), later(2, 0)), body(take(2), outer(2)), grows), 4, 200, 5, back, 9, 9},
		{"a deferred call of one that panics", program(body(later(1, 0), throw(0)), grows), 4, 200, 5, panics, 4, 9},
		{"a deferred call of one that exits", program(body(later(1, 0), exit()), grows), 4, 200, 5, leaves, 0, 9},
		{"a deferred call of one that is spent", program(body(later(1, 0), set(2, 1), jump(2, 2)), grows), 4, 200, 5, stops, 0, 5},
		{"a deferred call that is spent", program(body(later(1, 0)), grows), 4, 3, 5, stops, 0, 5},
		{"a deferred call that is just not spent", program(body(later(1, 0)), grows), 4, 4, 5, back, 0, 9},
		{"a deferred call that exits", program(body(later(1, 0)), body(keep(0), exit())), 4, 200, 5, leaves, 0, 4},
		{"what turns on it", program(body(take(2), jump(3, 2), exit(), throw(2))), 4, 200, 1, panics, 1, 1},
		{"what turns on it otherwise", program(body(take(2), jump(3, 2), exit(), throw(2))), 4, 200, -1, leaves, 0, -1},
	} {
		o, left := checkFrom(t, all.p, 0, all.arg, all.fuel, all.shared)
		if o.Kind != all.kind || o.Value != all.value || left != all.remain {
			t.Error(all.name, o.Kind, o.Value, left)
		}
	}
	o, left := checkFrom(t, clerks(), 4, 3, 200, 8)
	if left != 9 || !sameOutcome(o, returned(9, 5, called(4, 3), says(4, 9), returns(4, 9))) {
		t.Error("the whole outcome", o, left)
	}
}

// runAnswers asks all functions of chapter 10 that tell of one run, and returns whether they do not
// fail and how much they tell.
func runAnswers(p impl.Program, f int, arg int, fuel int, shared int) ([4]bool, [4]int) {
	var ok [4]bool
	var size [4]int
	size[0], ok[0] = impl.CodeOf(p, f, arg, fuel)
	path, two := impl.ExitPath(p, f, arg, fuel)
	args, three := impl.ExitingArgs(p, f, arg, arg, fuel)
	o, left, four := impl.RunFrom(p, f, arg, fuel, shared)
	ok[1], ok[2], ok[3] = two, three, four
	size[1], size[2], size[3] = len(path), len(args), len(o.Trace)+1000*o.Spent+o.Kind+o.Value+1000000*left
	return ok, size
}

func TestPromise10RunsRefuseOthers(t *testing.T) {
	p := program(body(keep(0), exit()), nil)
	for _, f := range []int{math.MinInt, -1, 0, 1, 2, 6, 1 << 32, math.MaxInt} {
		for _, arg := range []int{math.MinInt, -32769, -32768, 0, 32767, 32768, 65536, math.MaxInt} {
			for _, fuel := range []int{math.MinInt, -1, 0, 4, 200, 201, 1 << 32, math.MaxInt} {
				for _, shared := range []int{math.MinInt, -1 << 32, -65536, -32769, -32768, -1, 0, 1, 32767, 32768, 65536, 1 << 32, math.MaxInt} {
					valid := (f == 0 || f == 1) && -32768 <= arg && arg <= 32767 && 0 <= fuel && fuel <= 200
					number := -32768 <= shared && shared <= 32767
					ok, size := runAnswers(p, f, arg, fuel, shared)
					if ok != [4]bool{valid, valid, valid, valid && number} || !valid && size != [4]int{} || !number && size[3] != 0 {
						t.Fatal("run", f, arg, fuel, shared, ok, size)
					}
					if valid && number {
						checkExits(t, p, f, arg, fuel)
						checkFrom(t, p, f, arg, fuel, shared)
					}
				}
			}
		}
	}
}

// toldSession is what the functions of chapter 10 tell of a Session.
type toldSession struct {
	jobs, hooks []int
	code        int
	said        []int
	left        int
}

func sameToldSession(a toldSession, b toldSession) bool {
	return slices.Equal(a.jobs, b.jobs) && slices.Equal(a.hooks, b.hooks) && a.code == b.code && slices.Equal(a.said, b.said) && a.left == b.left
}

// modelSession tells of a Session what chapter 10 says, from runs of the model.
func modelSession(p impl.Program, s impl.Session, fuel int) toldSession {
	var all toldSession
	run := func(f int, arg int) impl.Outcome {
		m := modelFrom(p, f, arg, fuel, map[bool]int{true: 0, false: all.left}[s.Mode == modeEach])
		all.said = append(all.said, saidBy(m.out.Trace)...)
		all.left = m.shared
		return m.out
	}
	codes := []int{0}
	for i := 0; i < len(s.Jobs); i++ {
		o := run(s.Jobs[i].Function, s.Jobs[i].Arg)
		all.jobs = append(all.jobs, o.Kind)
		codes = append(codes, codeByRule(o))
		if o.Kind != back && s.Mode == modeFirst {
			break
		}
	}
	for _, hook := range slices.Backward(s.Hooks) {
		o := run(hook, slices.Max(codes))
		all.hooks = append(all.hooks, o.Kind)
		if o.Kind != back {
			codes = append(codes, codeByRule(o))
		}
	}
	all.code = slices.Max(codes)
	return all
}

// tellSession asks all functions of chapter 10 that tell of a Session as a whole.
func tellSession(p impl.Program, s impl.Session, fuel int) (toldSession, [4]bool) {
	var all toldSession
	var ok [4]bool
	all.jobs, all.hooks, ok[0] = impl.SessionKinds(p, s, fuel)
	all.code, ok[1] = impl.SessionCode(p, s, fuel)
	all.said, ok[2] = impl.SessionSays(p, s, fuel)
	all.left, ok[3] = impl.SharedLeft(p, s, fuel)
	return all, ok
}

// checkNeeded compares the numbers of Jobs that codes need with those of the model. Of all codes
// from -2 to 257, it asks those about which it turns how many Jobs they need.
func checkNeeded(t *testing.T, p impl.Program, s impl.Session, fuel int) {
	t.Helper()
	var codes []int
	asked := []int{-2, 0, 1, 2, 3, 123, 124, 125, 255, 256}
	for n := range len(s.Jobs) + 1 {
		code := modelSession(p, session(s.Mode, s.Jobs[:n], s.Hooks...), fuel).code
		codes = append(codes, code)
		asked = append(asked, code, code+1)
	}
	for _, code := range asked {
		want := slices.IndexFunc(codes, func(reached int) bool { return reached >= code })
		n, ok := impl.JobsNeeded(p, s, fuel, code)
		if ok != (want >= 0) || n != max(want, 0) {
			t.Fatalf("jobs needed for %d of %v of %s with %d: %d %t, not %d", code, s, textByRule(p), fuel, n, ok, want)
		}
	}
}

// checkSession compares what is told of a Session with the model.
func checkSession(t *testing.T, p impl.Program, s impl.Session, fuel int) toldSession {
	t.Helper()
	is, valid := impl.IsSession(p, s)
	got, ok := tellSession(p, s, fuel)
	want := modelSession(p, s, fuel)
	if !is || !valid || ok != [4]bool{true, true, true, true} || !sameToldSession(got, want) {
		t.Fatalf("%v of %s with %d: %v %v, not %v", s, textByRule(p), fuel, got, ok, want)
	}
	checkNeeded(t, p, s, fuel)
	return got
}

// checkSessionIs compares a Session with all that is to be told of it.
func checkSessionIs(t *testing.T, name string, p impl.Program, s impl.Session, fuel int, want toldSession) {
	t.Helper()
	if got := checkSession(t, p, s, fuel); !sameToldSession(got, want) {
		t.Errorf("%s, mode %d: %v, not %v", name, s.Mode, got, want)
	}
}

// randomSession returns a Session of a Program. Some have few Jobs and Hooks, some as many as there
// may be.
func randomSession(r *rand.Rand, p impl.Program) impl.Session {
	most := []int{2, 4, 12}[r.IntN(3)]
	s := impl.Session{Mode: modes[r.IntN(3)]}
	for range r.IntN(most + 1) {
		arg := edgeNumbers[r.IntN(len(edgeNumbers))]
		if r.IntN(2) == 0 {
			arg = r.IntN(700) - 350
		}
		s.Jobs = append(s.Jobs, job(r.IntN(len(p.Functions)), arg))
	}
	for range r.IntN(most + 1) {
		s.Hooks = append(s.Hooks, r.IntN(len(p.Functions)))
	}
	return s
}

func TestPromise10SessionsAreAsTheModel(t *testing.T) {
	r := rand.New(rand.NewPCG(106, 10))
	var stopped, raised, shared, said, high, plain int
	for _, p := range append(append(randomPrograms(106, 400), decidingPrograms(106, 400)...), sharingPrograms(106, 2400)...) {
		s, fuel := randomSession(r, p), []int{200, 200, 40, 6}[r.IntN(4)]
		all := checkSession(t, p, s, fuel)
		before, _ := impl.SessionCode(p, session(s.Mode, s.Jobs), fuel)
		count := func(n *int, what bool) {
			if what {
				*n++
			}
		}
		count(&stopped, len(all.jobs) < len(s.Jobs))
		count(&raised, before < all.code)
		count(&shared, all.left != 0)
		count(&said, len(all.said) > len(s.Hooks))
		count(&high, all.code > 124)
		count(&plain, all.code == 0)
	}
	if min(stopped, raised, shared, said, high, plain) < 150 {
		t.Error("the sessions are too much alike", stopped, raised, shared, said, high, plain)
	}
}

func TestPromise10EachSmallSessionIsAsTheModel(t *testing.T) {
	p := clerks()
	choice := jobs(job(0, 3), job(0, -1), job(1, 7), job(2, 7), job(3, 7), job(4, 7), job(5, 7), job(5, -7))
	hooks := append([][]int{nil}, listsOf(numbers(0, 5), 2)...)
	for _, list := range append([][]impl.Job{nil}, listsOf(choice, 2)...) {
		for _, mode := range modes {
			for _, some := range hooks {
				checkSession(t, p, session(mode, list, some...), 12)
			}
		}
	}
}

func TestPromise10SessionsWithoutJobsOrHooks(t *testing.T) {
	p := clerks()
	for _, mode := range modes {
		for _, fuel := range []int{0, 1, 200} {
			checkSessionIs(t, "without either", p, session(mode, nil), fuel, toldSession{})
			checkSessionIs(t, "without either, with lists", p, impl.Session{Jobs: []impl.Job{}, Hooks: []int{}, Mode: mode}, fuel, toldSession{})
			checkSessionIs(t, "without either, of no Steps", program(nil), session(mode, nil), fuel, toldSession{})
		}
		// Hooks without Jobs have the code 0 at first.
		checkSessionIs(t, "a Hook that says its code", p, session(mode, nil, 0), 200, toldSession{hooks: []int{back}, said: []int{0}})
		checkSessionIs(t, "one that panics, and one that says its code", p, session(mode, nil, 0, 1), 200, toldSession{hooks: []int{panics, back}, code: 2, said: []int{2}})
		checkSessionIs(t, "one that says its code, and one that panics", p, session(mode, nil, 1, 0), 200, toldSession{hooks: []int{back, panics}, code: 2, said: []int{0}})
		checkSessionIs(t, "one that exits", p, session(mode, nil, 2), 200, toldSession{hooks: []int{leaves}})
		checkSessionIs(t, "one that spends all", p, session(mode, nil, 3), 200, toldSession{hooks: []int{stops}, code: 124})
		checkSessionIs(t, "one that counts", p, session(mode, nil, 4), 200, toldSession{hooks: []int{back}, said: []int{1}, left: 1})
		// Jobs without Hooks.
		checkSessionIs(t, "a Job that returns", p, session(mode, jobs(job(0, 9))), 200, toldSession{jobs: []int{back}, code: 9, said: []int{9}})
		checkSessionIs(t, "one that keeps", p, session(mode, jobs(job(5, 9))), 200, toldSession{jobs: []int{back}, left: 9})
		for f := 1; f <= 3; f++ {
			checkSessionIs(t, "one that does not return", p, session(mode, jobs(job(f, 9))), 200, toldSession{jobs: badEnds[f][:1], code: badEnds[f][1]})
		}
		checkSessionIs(t, "one without fuel", p, session(mode, jobs(job(5, 9))), 0, toldSession{jobs: []int{stops}, code: 124})
	}
}

func TestPromise10Modes(t *testing.T) {
	p := clerks()
	list := jobs(job(4, 0), job(4, 0), job(1, 7), job(4, 0))
	checkSessionIs(t, "all", p, session(modeAll, list, 0, 4), 200,
		toldSession{jobs: []int{back, back, panics, back}, hooks: []int{back, back}, code: 3, said: []int{1, 2, 3, 4, 3}, left: 4})
	checkSessionIs(t, "up to the first one that does not return", p, session(modeFirst, list, 0, 4), 200,
		toldSession{jobs: []int{back, back, panics}, hooks: []int{back, back}, code: 2, said: []int{1, 2, 3, 2}, left: 3})
	checkSessionIs(t, "each from 0", p, session(modeEach, list, 0, 4), 200,
		toldSession{jobs: []int{back, back, panics, back}, hooks: []int{back, back}, code: 2, said: []int{1, 1, 1, 1, 2}})
	// Jobs that all return are run alike with ModeAll and ModeFirst.
	for _, mode := range []int{modeAll, modeFirst} {
		checkSessionIs(t, "all return", p, session(mode, jobs(job(5, 40), job(4, 0), job(0, 7)), 4, 0), 200,
			toldSession{jobs: []int{back, back, back}, hooks: []int{back, back}, code: 41, said: []int{41, 7, 41, 42}, left: 42})
	}
	checkSessionIs(t, "all return", p, session(modeEach, jobs(job(5, 40), job(4, 0), job(0, 7)), 4, 0), 200,
		toldSession{jobs: []int{back, back, back}, hooks: []int{back, back}, code: 7, said: []int{1, 7, 7, 1}, left: 1})
}

func TestPromise10JobsThatDoNotReturn(t *testing.T) {
	p := clerks()
	one := job(4, 0)
	for f := 1; f <= 3; f++ {
		bad, kind, code := job(f, 9), badEnds[f][0], badEnds[f][1]
		first, between, last := jobs(bad, one, one), jobs(one, bad, one), jobs(one, one, bad)
		hooks := []int{back}
		more := max(code, 2)
		checkSessionIs(t, "the first one", p, session(modeAll, first, 0), 200, toldSession{[]int{kind, back, back}, hooks, more, []int{1, 2, more}, 2})
		checkSessionIs(t, "one between", p, session(modeAll, between, 0), 200, toldSession{[]int{back, kind, back}, hooks, more, []int{1, 2, more}, 2})
		checkSessionIs(t, "the last one", p, session(modeAll, last, 0), 200, toldSession{[]int{back, back, kind}, hooks, more, []int{1, 2, more}, 2})
		single := max(code, 1)
		checkSessionIs(t, "the first one", p, session(modeFirst, first, 0), 200, toldSession{[]int{kind}, hooks, code, []int{code}, 0})
		checkSessionIs(t, "one between", p, session(modeFirst, between, 0), 200, toldSession{[]int{back, kind}, hooks, single, []int{1, single}, 1})
		checkSessionIs(t, "the last one", p, session(modeFirst, last, 0), 200, toldSession{[]int{back, back, kind}, hooks, more, []int{1, 2, more}, 2})
		checkSessionIs(t, "the first one", p, session(modeEach, first, 0), 200, toldSession{[]int{kind, back, back}, hooks, single, []int{1, 1, single}, 0})
		checkSessionIs(t, "one between", p, session(modeEach, between, 0), 200, toldSession{[]int{back, kind, back}, hooks, single, []int{1, 1, single}, 0})
		checkSessionIs(t, "the last one", p, session(modeEach, last, 0), 200, toldSession{[]int{back, back, kind}, hooks, single, []int{1, 1, single}, 0})
		// Without Hooks, it is the last Job that leaves a shared number.
		checkSessionIs(t, "the first one alone", p, session(modeEach, first), 200, toldSession{[]int{kind, back, back}, nil, single, []int{1, 1}, 1})
		checkSessionIs(t, "the last one alone", p, session(modeEach, last), 200, toldSession{[]int{back, back, kind}, nil, single, []int{1, 1}, 0})
		checkSessionIs(t, "the last one alone", p, session(modeAll, last), 200, toldSession{[]int{back, back, kind}, nil, more, []int{1, 2}, 2})
		checkSessionIs(t, "all of them", p, session(modeAll, jobs(bad, bad, bad)), 200, toldSession{[]int{kind, kind, kind}, nil, code, nil, 0})
		checkSessionIs(t, "all of them", p, session(modeFirst, jobs(bad, bad, bad)), 200, toldSession{[]int{kind}, nil, code, nil, 0})
	}
	mix := jobs(job(2, 9), job(1, 9), job(3, 9), job(0, 9))
	checkSessionIs(t, "one of each kind", p, session(modeAll, mix), 200, toldSession{jobs: []int{leaves, panics, stops, back}, code: 124, said: []int{9}})
	checkSessionIs(t, "one of each kind", p, session(modeFirst, mix), 200, toldSession{jobs: []int{leaves}})
	checkSessionIs(t, "one of each kind", p, session(modeEach, mix), 200, toldSession{jobs: []int{leaves, panics, stops, back}, code: 124, said: []int{9}})
	// Each run has the whole fuel anew.
	for _, mode := range modes {
		checkSessionIs(t, "just the fuel", p, session(mode, jobs(job(0, 9), job(0, 8), job(0, 7)), 0, 0), 2,
			toldSession{jobs: []int{back, back, back}, hooks: []int{back, back}, code: 9, said: []int{9, 8, 7, 9, 9}})
	}
	checkSessionIs(t, "not the fuel", p, session(modeFirst, jobs(job(0, 9), job(0, 8)), 0, 0), 1,
		toldSession{jobs: []int{stops}, hooks: []int{stops, stops}, code: 124, said: []int{9, 124, 124}})
}

func TestPromise10HooksThatDoNotReturn(t *testing.T) {
	p := clerks()
	list := jobs(job(0, 5))
	for _, mode := range modes {
		for f := 1; f <= 3; f++ {
			kind, code := badEnds[f][0], max(badEnds[f][1], 5)
			checkSessionIs(t, "alone", p, session(mode, list, f), 200, toldSession{[]int{back}, []int{kind}, code, []int{5}, 0})
			checkSessionIs(t, "run first", p, session(mode, list, 0, 0, f), 200, toldSession{[]int{back}, []int{kind, back, back}, code, []int{5, code, code}, 0})
			checkSessionIs(t, "run between", p, session(mode, list, 0, f, 0), 200, toldSession{[]int{back}, []int{back, kind, back}, code, []int{5, 5, code}, 0})
			checkSessionIs(t, "run last", p, session(mode, list, f, 0, 0), 200, toldSession{[]int{back}, []int{back, back, kind}, code, []int{5, 5, 5}, 0})
			checkSessionIs(t, "all of them", p, session(mode, list, f, f, f), 200, toldSession{[]int{back}, []int{kind, kind, kind}, code, []int{5}, 0})
			// Without Jobs, the code is that of the Hook alone.
			checkSessionIs(t, "of no Jobs", p, session(mode, nil, 0, f), 200, toldSession{nil, []int{kind, back}, badEnds[f][1], []int{badEnds[f][1]}, 0})
		}
		checkSessionIs(t, "one of each kind", p, session(mode, list, 0, 3, 0, 1, 0, 2), 200,
			toldSession{[]int{back}, []int{leaves, back, panics, back, stops, back}, 124, []int{5, 5, 5, 124}, 0})
		// Codes that a Hook would make less.
		for _, arg := range []int{200, 255, -1, 125} {
			code := wrapped(arg) & 255
			checkSessionIs(t, "codes that are greater", p, session(mode, jobs(job(0, arg)), 0, 3, 0, 1, 0, 2), 200,
				toldSession{[]int{back}, []int{leaves, back, panics, back, stops, back}, code, []int{arg, code, code, code}, 0})
		}
		checkSessionIs(t, "one that is spent already", p, session(mode, jobs(job(3, 5)), 0, 1, 0, 2, 0, 3), 200,
			toldSession{[]int{stops}, []int{stops, back, leaves, back, panics, back}, 124, []int{124, 124, 124}, 0})
		checkSessionIs(t, "one that has panicked already", p, session(mode, jobs(job(1, 5)), 0, 2), 200,
			toldSession{[]int{panics}, []int{leaves, back}, 2, []int{2}, 0})
		checkSessionIs(t, "one that has exited", p, session(mode, jobs(job(2, 5)), 0, 1), 200,
			toldSession{[]int{leaves}, []int{panics, back}, 2, []int{2}, 0})
	}
	// Those that do not return leave a shared number, too.
	q := program(body(keep(0), exit()), body(take(2), say(2)), body(set(2, 6), keep(2), throw(2)), body(set(2, 9), keep(2), jump(2, 2)))
	checkSessionIs(t, "what they leave", q, session(modeAll, jobs(job(0, 40), job(1, 0)), 1, 0, 1, 3, 1, 2, 1), 60,
		toldSession{jobs: []int{leaves, back}, hooks: []int{back, panics, back, stops, back, leaves, back}, code: 124, said: []int{40, 40, 6, 9, 124}, left: 124})
	checkSessionIs(t, "what they leave", q, session(modeFirst, jobs(job(0, 40), job(1, 0)), 1, 0, 1, 3, 1, 2, 1), 60,
		toldSession{jobs: []int{leaves}, hooks: []int{back, panics, back, stops, back, leaves, back}, code: 124, said: []int{40, 6, 9, 124}, left: 124})
	checkSessionIs(t, "what they leave", q, session(modeEach, jobs(job(0, 40), job(1, 0)), 1, 0, 1, 3, 1, 2, 1), 60,
		toldSession{jobs: []int{leaves, back}, hooks: []int{back, panics, back, stops, back, leaves, back}, code: 124, said: []int{0, 0, 0, 0, 0}})
	checkSessionIs(t, "what the last one leaves", q, session(modeEach, nil, 2, 1), 60, toldSession{hooks: []int{back, panics}, code: 2, said: []int{0}, left: 6})
}

func TestPromise10HooksThatReturnAnotherCode(t *testing.T) {
	// 1 says the code that it is given, and returns a number; 2 and 3 return it alone.
	for _, n := range []int{-32768, -1, 0, 3, 6, 7, 8, 124, 255, 256, 263, 32767} {
		p := program(body(give(0)), body(say(0), set(1, n)), body(set(1, n)), body(set(2, n), give(2)))
		for _, mode := range modes {
			list := []int{1, 2, 1, 3, 1}
			checkSessionIs(t, "a code", p, session(mode, jobs(job(0, 7)), list...), 200,
				toldSession{[]int{back}, []int{back, back, back, back, back}, 7, []int{7, 7, 7}, 0})
			checkSessionIs(t, "no code", p, session(mode, nil, list...), 200,
				toldSession{nil, []int{back, back, back, back, back}, 0, []int{0, 0, 0}, 0})
			checkSessionIs(t, "the greatest code", p, session(mode, jobs(job(0, -1)), list...), 200,
				toldSession{[]int{back}, []int{back, back, back, back, back}, 255, []int{255, 255, 255}, 0})
		}
	}
}

func TestPromise10CodesOfSessions(t *testing.T) {
	p := program(body(give(0)), body(throw(0)))
	for _, all := range []struct {
		args []int
		code int
	}{
		{[]int{0}, 0}, {[]int{3, 9, 4}, 9}, {[]int{9, 3}, 9}, {[]int{3, 9}, 9},
		// Negative results, and those that are 255, 256 and more.
		{[]int{-1}, 255}, {[]int{-256}, 0}, {[]int{-257}, 255}, {[]int{-255}, 1}, {[]int{-3, -2, -4}, 254}, {[]int{-250, 5, -32768}, 6},
		{[]int{255}, 255}, {[]int{256}, 0}, {[]int{257}, 1}, {[]int{256, 512, 768}, 0}, {[]int{300}, 44}, {[]int{300, 45}, 45}, {[]int{300, 43}, 44},
		{[]int{254, 256}, 254}, {[]int{255, 256}, 255}, {[]int{256, 255}, 255}, {[]int{32767}, 255}, {[]int{-32768}, 0},
	} {
		for _, mode := range modes {
			var list []impl.Job
			for _, arg := range all.args {
				list = append(list, job(0, arg))
			}
			checkSessionIs(t, "results", p, session(mode, list), 200, toldSession{jobs: slices.Repeat([]int{back}, len(list)), code: all.code})
			// The value of a panic is no code.
			list = append(list, job(1, 99))
			kinds := append(slices.Repeat([]int{back}, len(all.args)), panics)
			checkSessionIs(t, "results and a panic", p, session(mode, list), 200, toldSession{jobs: kinds, code: max(all.code, 2)})
		}
	}
}

func TestPromise10SharedNumbersGoFromRunToRun(t *testing.T) {
	p := clerks()
	one := job(4, 0)
	for _, mode := range []int{modeAll, modeFirst} {
		checkSessionIs(t, "from Job to Job", p, session(mode, jobs(one, one, one)), 200, toldSession{jobs: []int{back, back, back}, code: 3, said: []int{1, 2, 3}, left: 3})
		checkSessionIs(t, "from Hook to Hook", p, session(mode, nil, 4, 4, 4), 200, toldSession{hooks: []int{back, back, back}, said: []int{1, 2, 3}, left: 3})
		checkSessionIs(t, "from Job to Hook", p, session(mode, jobs(one), 4), 200, toldSession{jobs: []int{back}, hooks: []int{back}, code: 1, said: []int{1, 2}, left: 2})
		checkSessionIs(t, "over those that leave it", p, session(mode, jobs(one, job(0, 0), one), 4, 0, 4), 200,
			toldSession{[]int{back, back, back}, []int{back, back, back}, 2, []int{1, 0, 2, 3, 2, 4}, 4})
		checkSessionIs(t, "from another number", p, session(mode, jobs(job(5, -4), one, one)), 200, toldSession{jobs: []int{back, back, back}, code: 254, said: []int{-3, -2}, left: -2})
		checkSessionIs(t, "beyond the greatest one", p, session(mode, jobs(job(5, 32767), one, one), 4), 200,
			toldSession{[]int{back, back, back}, []int{back}, 1, []int{-32768, -32767, -32766}, -32766})
		// A Hook keeps the code that it is given.
		checkSessionIs(t, "codes", p, session(mode, jobs(job(0, 9)), 4, 5), 200, toldSession{[]int{back}, []int{back, back}, 9, []int{9, 10}, 10})
		checkSessionIs(t, "the last run alone", p, session(mode, jobs(one, job(5, 30)), 5), 200, toldSession{[]int{back, back}, []int{back}, 1, []int{1}, 1})
	}
	// With ModeAll also behind those that do not return.
	checkSessionIs(t, "over those that do not return", p, session(modeAll, jobs(one, job(1, 0), one, job(2, 0), one, job(3, 0), one), 4, 1, 4, 2, 4, 3), 20,
		toldSession{[]int{back, panics, back, leaves, back, stops, back}, []int{stops, back, leaves, back, panics, back}, 124, numbers(1, 7), 7})
}

func TestPromise10ModeEachSetsTheSharedNumberBack(t *testing.T) {
	p := clerks()
	one := job(4, 0)
	checkSessionIs(t, "ahead of Jobs", p, session(modeEach, jobs(one, one, one)), 200, toldSession{jobs: []int{back, back, back}, code: 1, said: []int{1, 1, 1}, left: 1})
	checkSessionIs(t, "ahead of Hooks", p, session(modeEach, nil, 4, 4, 4), 200, toldSession{hooks: []int{back, back, back}, said: []int{1, 1, 1}, left: 1})
	checkSessionIs(t, "between both", p, session(modeEach, jobs(job(5, 30)), 4), 200, toldSession{jobs: []int{back}, hooks: []int{back}, said: []int{1}, left: 1})
	checkSessionIs(t, "ahead of one that leaves it", p, session(modeEach, jobs(job(5, 30), job(0, 2))), 200, toldSession{jobs: []int{back, back}, code: 2, said: []int{2}})
	checkSessionIs(t, "ahead of one that does not return", p, session(modeEach, jobs(job(5, 30), job(1, 2))), 200, toldSession{jobs: []int{back, panics}, code: 2})
	checkSessionIs(t, "ahead of a Hook that leaves it", p, session(modeEach, jobs(job(5, 30)), 0), 200, toldSession{jobs: []int{back}, hooks: []int{back}, said: []int{0}})
	checkSessionIs(t, "not behind the last one", p, session(modeEach, jobs(one, job(5, 30))), 200, toldSession{jobs: []int{back, back}, code: 1, said: []int{1}, left: 30})
}

func TestPromise10MaxSessionAndMore(t *testing.T) {
	p := clerks()
	full, hooks := slices.Repeat([]impl.Job{job(4, 0)}, 12), slices.Repeat([]int{4}, 12)
	kinds := slices.Repeat([]int{back}, 12)
	for _, mode := range []int{modeAll, modeFirst} {
		checkSessionIs(t, "both", p, session(mode, full, hooks...), 200, toldSession{kinds, kinds, 12, numbers(1, 24), 24})
		checkSessionIs(t, "as many Jobs", p, session(mode, full), 200, toldSession{jobs: kinds, code: 12, said: numbers(1, 12), left: 12})
		checkSessionIs(t, "as many Hooks", p, session(mode, nil, hooks...), 200, toldSession{hooks: kinds, said: numbers(1, 12), left: 12})
	}
	checkSessionIs(t, "both", p, session(modeEach, full, hooks...), 200, toldSession{kinds, kinds, 1, slices.Repeat([]int{1}, 24), 1})
	for n := range full {
		list := slices.Clone(full)
		list[n] = job(3, 0)
		want := toldSession{jobs: append(kinds[:n:n], stops), hooks: kinds, code: 124, said: numbers(1, n+12), left: n + 12}
		checkSessionIs(t, "one of the most is spent", p, session(modeFirst, list, hooks...), 20, want)
	}
	for _, size := range []int{13, 14, 1 << 20} {
		for _, mode := range modes {
			checkNoSession(t, p, session(mode, slices.Repeat([]impl.Job{job(4, 0)}, size)), 200)
			checkNoSession(t, p, session(mode, nil, make([]int, size)...), 200)
			checkNoSession(t, p, session(mode, slices.Repeat([]impl.Job{job(2, 0)}, size), hooks...), 200)
			checkNoSession(t, p, session(mode, full, make([]int, size)...), 200)
		}
	}
}

// checkNoSession checks that nothing is told of a Session that is not valid, or is to be run with
// what is no fuel, and that it is none if the fuel is valid.
func checkNoSession(t *testing.T, p impl.Program, s impl.Session, fuel int) {
	t.Helper()
	if all, ok := tellSession(p, s, fuel); ok != [4]bool{} || !sameToldSession(all, toldSession{}) {
		t.Error("a session", len(s.Jobs), len(s.Hooks), s.Mode, fuel, all, ok)
	}
	for _, code := range []int{math.MinInt, 0, 1, 2, 124, 256} {
		if n, ok := impl.JobsNeeded(p, s, fuel, code); ok || n != 0 {
			t.Error("jobs of no session", len(s.Jobs), len(s.Hooks), s.Mode, fuel, code, n, ok)
		}
	}
	is, ok := impl.IsSession(p, s)
	valid := validProgram(p)
	if ok != valid || is != (valid && (fuel < 0 || fuel > 200)) {
		t.Error("is a session", len(s.Jobs), len(s.Hooks), s.Mode, is, ok)
	}
}

func TestPromise10SessionsRefuseOthers(t *testing.T) {
	p := clerks()
	for _, mode := range []int{math.MinInt, -1 << 32, -3, -1, 0, 4, 5, 1<<32 + 1, 1<<32 + 3, math.MaxInt} {
		checkNoSession(t, p, session(mode, nil), 200)
		checkNoSession(t, p, session(mode, jobs(job(0, 1)), 0), 200)
	}
	checkNoSession(t, p, impl.Session{}, 200)
	for _, mode := range modes {
		for _, fuel := range []int{math.MinInt, -1, 201, 1 << 32, math.MaxInt} {
			checkNoSession(t, p, session(mode, nil), fuel)
			checkNoSession(t, p, session(mode, jobs(job(0, 1)), 0), fuel)
		}
		// What is not valid counts wherever it is, also behind a Job that does not return.
		for at := range 4 {
			for _, first := range []int{0, 1} {
				list := jobs(job(first, 1), job(0, 1), job(0, 1))
				for _, f := range []int{math.MinInt, -1, 6, 7, 1 << 32, math.MaxInt} {
					checkNoSession(t, p, session(mode, slices.Insert(slices.Clone(list), at, job(f, 1)), 0), 200)
					checkNoSession(t, p, session(mode, list, slices.Insert([]int{0, 1, 2}, at, f)...), 200)
				}
				for _, arg := range []int{math.MinInt, -65536, -32769, 32768, 65536, 1 << 32, math.MaxInt} {
					checkNoSession(t, p, session(mode, slices.Insert(slices.Clone(list), at, job(0, arg)), 0), 200)
				}
				for _, arg := range []int{-32768, 32767} {
					checkSession(t, p, session(mode, slices.Insert(slices.Clone(list), at, job(5, arg)), 5, 0), 200)
				}
			}
		}
	}
	// Functions of one Program need not be those of another one.
	small := program(nil, body(exit()))
	for f := range 6 {
		for _, s := range []impl.Session{session(modeAll, jobs(job(f, 1))), session(modeAll, nil, f)} {
			checkSession(t, p, s, 200)
			if f < 2 {
				checkSession(t, small, s, 200)
			} else {
				checkNoSession(t, small, s, 200)
			}
		}
	}
}

func TestPromise10HooksNeverMakeACodeLess(t *testing.T) {
	r := rand.New(rand.NewPCG(107, 10))
	var raised, kept int
	for _, p := range append(sharingPrograms(107, 1500), randomPrograms(107, 500)...) {
		s, fuel := randomSession(r, p), []int{200, 40, 6}[r.IntN(3)]
		before, ok := impl.SessionCode(p, session(s.Mode, s.Jobs), fuel)
		for n := len(s.Hooks) - 1; n >= 0 && ok; n-- {
			// One more Hook is run behind all others.
			code, fine := impl.SessionCode(p, session(s.Mode, s.Jobs, s.Hooks[n:]...), fuel)
			if ok = fine && code >= before; code > before {
				raised++
			} else {
				kept++
			}
			before = code
		}
		if !ok {
			t.Fatalf("less code: %v of %s with %d", s, textByRule(p), fuel)
		}
	}
	if min(raised, kept) < 300 {
		t.Error("the hooks are too much alike", raised, kept)
	}
}

func TestPromise10WithModeEachAJobIsTheSameWhereverItIs(t *testing.T) {
	r := rand.New(rand.NewPCG(108, 10))
	for _, p := range sharingPrograms(108, 800) {
		s, fuel := randomSession(r, p), []int{200, 40, 6}[r.IntN(3)]
		s.Mode = modeEach
		order := r.Perm(len(s.Jobs))
		turned := session(modeEach, nil, s.Hooks...)
		for _, n := range order {
			turned.Jobs = append(turned.Jobs, s.Jobs[n])
		}
		kinds, _, one := impl.SessionKinds(p, s, fuel)
		others, _, two := impl.SessionKinds(p, turned, fuel)
		if !one || !two || len(kinds) != len(s.Jobs) || len(others) != len(order) {
			t.Fatalf("kinds of %v of %s: %v %v", s, textByRule(p), kinds, others)
		}
		for at, n := range order {
			o, _ := impl.RunProgram(p, s.Jobs[n].Function, s.Jobs[n].Arg, fuel)
			alone, _, _ := impl.SessionKinds(p, session(modeEach, s.Jobs[n:n+1]), fuel)
			if others[at] != kinds[n] || kinds[n] != o.Kind || !slices.Equal(alone, kinds[n:n+1]) {
				t.Fatalf("job %d of %v of %s: %v %v %v %d", n, s, textByRule(p), kinds, others, alone, o.Kind)
			}
		}
	}
}

func TestPromise10WithModeFirstAtMostOneJobDoesNotReturn(t *testing.T) {
	r := rand.New(rand.NewPCG(109, 10))
	var none, one int
	for _, p := range append(sharingPrograms(109, 1000), decidingPrograms(109, 500)...) {
		s, fuel := randomSession(r, p), []int{200, 40, 6}[r.IntN(3)]
		s.Mode = modeFirst
		kinds, hooks, ok := impl.SessionKinds(p, s, fuel)
		bad := slices.IndexFunc(kinds, func(kind int) bool { return kind != back })
		if !ok || len(hooks) != len(s.Hooks) || bad >= 0 && bad != len(kinds)-1 || bad < 0 && len(kinds) != len(s.Jobs) {
			t.Fatalf("%v of %s: %v %v %t", s, textByRule(p), kinds, hooks, ok)
		}
		if bad < 0 {
			none++
		} else {
			one++
		}
	}
	if min(none, one) < 200 {
		t.Error("the sessions are too much alike", none, one)
	}
}

// checkNeeds compares the number of Jobs that a code needs with what is to be told, or with none if
// that is less than 0.
func checkNeeds(t *testing.T, name string, p impl.Program, s impl.Session, code int, want int) {
	t.Helper()
	checkNeeded(t, p, s, 60)
	if n, ok := impl.JobsNeeded(p, s, 60, code); ok != (want >= 0) || n != max(want, 0) {
		t.Errorf("%s, mode %d: %d needs %d %t, not %d", name, s.Mode, code, n, ok, want)
	}
}

func TestPromise10JobsNeeded(t *testing.T) {
	p := clerks()
	full := slices.Repeat([]impl.Job{job(4, 0)}, 12)
	for _, mode := range []int{modeAll, modeFirst} {
		for code := range 13 {
			checkNeeds(t, "one more each time", p, session(mode, full), code, code)
			checkNeeds(t, "with Hooks that return", p, session(mode, full, 4, 0), code, code)
		}
		checkNeeds(t, "more than there are", p, session(mode, full), 13, -1)
		checkNeeds(t, "more than there are", p, session(mode, full[:5]), 6, -1)
	}
	checkNeeds(t, "each from 0", p, session(modeEach, full), 1, 1)
	checkNeeds(t, "each from 0", p, session(modeEach, full), 2, -1)
	list := jobs(job(4, 0), job(1, 0), job(4, 0), job(3, 0), job(0, -1))
	for _, all := range [][4]int{{0, 0, 0, 0}, {1, 1, 1, 1}, {2, 2, 2, 2}, {3, 4, -1, 4}, {124, 4, -1, 4}, {125, 5, -1, 5}, {255, 5, -1, 5}, {256, -1, -1, -1}} {
		for i, mode := range modes {
			checkNeeds(t, "behind one that does not return", p, session(mode, list), all[0], all[i+1])
		}
	}
	for _, mode := range modes {
		// Codes that no Job is needed for.
		for _, code := range []int{math.MinInt, -1 << 32, -32769, -32768, -256, -1, 0} {
			checkNeeds(t, "no code", p, session(mode, full), code, 0)
			checkNeeds(t, "no code of no Jobs", p, session(mode, nil), code, 0)
		}
		checkNeeds(t, "that of a Hook", p, session(mode, jobs(job(0, 1), job(0, 3)), 1), 2, 0)
		checkNeeds(t, "more than that of a Hook", p, session(mode, jobs(job(0, 1), job(0, 3)), 1), 3, 2)
		checkNeeds(t, "that of a Hook that is spent", p, session(mode, full, 3), 124, 0)
		checkNeeds(t, "that of a Hook without Jobs", p, session(mode, nil, 0, 1), 2, 0)
		// Codes that no number of Jobs reaches.
		checkNeeds(t, "of no Jobs", p, session(mode, nil), 1, -1)
		checkNeeds(t, "more than that of a Hook without Jobs", p, session(mode, nil, 0, 1), 3, -1)
		for _, code := range []int{256, 257, 32767, 32768, 1 << 32, math.MaxInt} {
			checkNeeds(t, "too great", p, session(mode, jobs(job(0, -1), job(0, 255)), 3), code, -1)
		}
		checkNeeds(t, "the greatest one", p, session(mode, jobs(job(0, 256), job(0, -1), job(0, 255)), 3), 255, 2)
		checkNeeds(t, "of results that are no codes", p, session(mode, jobs(job(0, 256), job(0, 300), job(0, 45))), 44, 2)
		checkNeeds(t, "of results that are no codes", p, session(mode, jobs(job(0, 256), job(0, 300), job(0, 45))), 45, 3)
		checkNeeds(t, "of one that exits", p, session(mode, jobs(job(2, 9))), 1, -1)
	}
	// Less Jobs may do where more do not: the Hook spends all if the shared number is greater than 0.
	spends := program(body(keep(0)), body(take(2), jump(1, 2)))
	for _, mode := range []int{modeAll, modeFirst} {
		checkNeeds(t, "one of two", spends, session(mode, jobs(job(0, 1), job(0, 0)), 1), 124, 1)
		checkNeeds(t, "three of four", spends, session(mode, jobs(job(0, 0), job(0, -1), job(0, 1), job(0, 0)), 1), 124, 3)
		checkSessionIs(t, "two of two", spends, session(mode, jobs(job(0, 1), job(0, 0)), 1), 60, toldSession{jobs: []int{back, back}, hooks: []int{back}})
	}
	checkNeeds(t, "none of two", spends, session(modeEach, jobs(job(0, 1), job(0, 0)), 1), 124, -1)
}

// sessionAnswers asks all functions of chapter 10, and returns whether they do not fail and how much
// they tell.
func sessionAnswers(p impl.Program, f int, arg int, fuel int, s impl.Session) ([10]bool, [10]int) {
	one, first := runAnswers(p, f, arg, fuel, arg)
	all, two := tellSession(p, s, fuel)
	n, three := impl.JobsNeeded(p, s, fuel, arg)
	is, four := impl.IsSession(p, s)
	told := [10]int{4: len(all.jobs) + 100*len(all.hooks), 5: all.code, 6: len(all.said), 7: all.left, 8: n}
	copy(told[:], first[:])
	return [10]bool{one[0], one[1], one[2], one[3], two[0], two[1] && four, two[2], two[3], three, is}, told
}

func TestPromise13WhatIsNoProgramHasNoSession(t *testing.T) {
	for i, p := range invalidPrograms() {
		for _, f := range []int{math.MinInt, -1, 0, 1, 5, 6, math.MaxInt} {
			for _, s := range []impl.Session{{}, session(modeAll, nil), session(modeFirst, jobs(job(0, 1))), session(modeEach, nil, 0), session(modeAll, jobs(job(f, 1)), f)} {
				if ok, size := sessionAnswers(p, f, 1, 9, s); ok != [10]bool{} || size != [10]int{} {
					t.Error("what is told of no program", i, f, s, ok, size)
				}
				checkNoSession(t, p, s, 9)
			}
		}
	}
}

func TestPromise13SessionsReturnForAllNumbers(t *testing.T) {
	edges := []int{math.MinInt, math.MinInt + 1, -32769, -1, 0, 1, 6, 32768, math.MaxInt - 1, math.MaxInt}
	for _, p := range []impl.Program{{}, mixed(), clerks(), program(nil, body(exit(), impl.Step{Kind: math.MinInt}))} {
		for _, a := range edges {
			for _, b := range edges {
				for _, c := range edges {
					s := session(c, jobs(job(a, b), job(b, c)), a, b)
					one, first := sessionAnswers(p, a, b, c, s)
					two, second := sessionAnswers(p, a, b, c, s)
					if one != two || first != second {
						t.Fatal("other answers", textByRule(p), a, b, c, one, two, first, second)
					}
					for i, ok := range one {
						if !ok && first[i] != 0 {
							t.Fatal("fails and tells", textByRule(p), a, b, c, i, first[i])
						}
					}
					args, fine := impl.ExitingArgs(p, a, b, c, 9)
					if !fine && len(args) != 0 || fine && (!validRange(b, c) || !validProgram(p)) {
						t.Fatal("range", textByRule(p), a, b, c, args, fine)
					}
				}
			}
		}
	}
}

func TestPromise13SessionsModifyNothing(t *testing.T) {
	r := rand.New(rand.NewPCG(110, 10))
	for i, p := range append(sharingPrograms(110, 400), invalidPrograms()[:22]...) {
		s := session(modeAll, jobs(job(0, 0), job(0, 1)), 0, 0)
		if len(p.Functions) > 0 {
			s = randomSession(r, p)
		}
		if i%9 == 0 {
			s.Jobs, s.Hooks = append(s.Jobs, job(-1, 9)), append(s.Hooks, 9)
		}
		// Behind the lists there is memory that is not theirs.
		list, hooks := append(slices.Clone(s.Jobs), job(1, 1), job(7, 7)), append(slices.Clone(s.Hooks), 5, -5, 5)
		sameJobs, sameHooks := slices.Clone(list), slices.Clone(hooks)
		given := session(s.Mode, list[:len(s.Jobs)])
		given.Hooks = hooks[:len(s.Hooks)]
		checkUnmodified(t, p, func(q impl.Program) {
			for f := -1; f <= len(p.Functions); f++ {
				one, first := sessionAnswers(q, f, 1, 60, given)
				two, second := sessionAnswers(q, f, 1, 60, given)
				if one != two || first != second {
					t.Fatalf("other answers of %s", textByRule(p))
				}
				impl.ExitingArgs(q, f, -1, 1, 60)
			}
		})
		if !slices.Equal(list, sameJobs) || !slices.Equal(hooks, sameHooks) {
			t.Fatalf("modified %v %v: %v %v", sameJobs, sameHooks, list, hooks)
		}
	}
}

func TestPromise13ListsOfSessionsAreApart(t *testing.T) {
	p := program(body(say(0), give(0)), body(exit()), body(later(1, 0), call(0, 0), exit()))
	s := session(modeAll, jobs(job(0, 4), job(2, 5), job(1, 6)), 0, 2)
	same := session(modeAll, jobs(job(0, 4), job(2, 5), job(1, 6)), 0, 2)
	checkListsApart(t,
		func() ([]int, bool) { return impl.ExitPath(p, 2, 4, 99) },
		func() ([]int, bool) { return impl.ExitingArgs(p, 2, 0, 9, 99) },
		func() ([]int, bool) {
			kinds, _, ok := impl.SessionKinds(p, s, 99)
			return kinds, ok
		},
		func() ([]int, bool) {
			_, kinds, ok := impl.SessionKinds(p, s, 99)
			return kinds, ok
		},
		func() ([]int, bool) { return impl.SessionSays(p, s, 99) },
	)
	// The two lists of one result, too.
	for n := range 13 {
		kinds, hooks, _ := impl.SessionKinds(p, session(modeAll, slices.Repeat([]impl.Job{job(0, 1)}, n), slices.Repeat([]int{1}, n)...), 99)
		_ = append(kinds, 7, 7, 7)
		clear(kinds[:cap(kinds)])
		if !slices.Equal(hooks, slices.Repeat([]int{leaves}, n)) {
			t.Error("both lists share memory", n, hooks)
		}
	}
	one, _, _ := impl.RunFrom(p, 0, 4, 99, 3)
	two, _, _ := impl.RunFrom(p, 0, 4, 99, 3)
	clear(one.Trace[:cap(one.Trace)])
	if !sameOutcome(two, returned(4, 2, called(0, 4), says(0, 4), returns(0, 4))) {
		t.Error("traces share memory", two)
	}
	if !slices.Equal(s.Jobs, same.Jobs) || !slices.Equal(s.Hooks, same.Hooks) || s.Mode != same.Mode {
		t.Error("results share memory with arguments", s)
	}
}
