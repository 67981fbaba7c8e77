package tests

import (
	"math"
	"slices"
	"strconv"
	"strings"
	"testing"

	"loop.example/g01183/impl"
)

// checkRun compares a run of the function 0 with a whole Outcome, and runs it with each fuel.
func checkRun(t *testing.T, name string, p impl.Program, arg int, want impl.Outcome) {
	t.Helper()
	got, ok := impl.RunProgram(p, 0, arg, impl.MaxFuel)
	if !ok || !sameOutcome(got, want) {
		t.Errorf("%s: run %v %t, not %v", name, got, ok, want)
	}
	checkFuels(t, p, 0, arg)
}

// checkFuels runs a Program with each fuel: with just that of FuelOf and with more, the Outcome
// is the same, and with less the run is spent where the longer one goes on.
func checkFuels(t *testing.T, p impl.Program, f int, arg int) {
	t.Helper()
	full, ok := impl.RunProgram(p, f, arg, impl.MaxFuel)
	least, ends := impl.FuelOf(p, f, arg)
	if !ok || ends != (full.Kind != impl.OutSpent) || ends && least != full.Spent || !ends && least != 0 {
		t.Fatalf("fuel %d %t of %s with %d: %v", least, ends, textByRule(p), arg, full)
	}
	for fuel := range impl.MaxFuel + 1 {
		o, ok := impl.RunProgram(p, f, arg, fuel)
		if !ok {
			t.Fatalf("no run of %s with %d and %d", textByRule(p), arg, fuel)
		}
		if fuel >= full.Spent && ends {
			if !sameOutcome(o, full) {
				t.Fatalf("another outcome of %s with %d and %d: %v", textByRule(p), arg, fuel, o)
			}
			continue
		}
		short := impl.Outcome{Kind: impl.OutSpent, Spent: min(fuel, full.Spent)}
		if len(o.Trace) <= len(full.Trace) {
			short.Trace = full.Trace[:len(o.Trace)]
		}
		if !sameOutcome(o, short) {
			t.Fatalf("not spent: %s with %d and %d: %v", textByRule(p), arg, fuel, o)
		}
	}
}

// checkModel compares a run with that of the model.
func checkModel(t *testing.T, p impl.Program, f int, arg int, fuel int) impl.Outcome {
	t.Helper()
	got, ok := impl.RunProgram(p, f, arg, fuel)
	want, deep := modelOutcome(p, f, arg, fuel)
	if !ok || !sameOutcome(got, want) {
		t.Fatalf("run %d of %s with %d and %d: %v %t, not %v", f, textByRule(p), arg, fuel, got, ok, want)
	}
	if n, ok := impl.DeepestCall(p, f, arg, fuel); !ok || n != deep {
		t.Fatalf("depth of %d of %s with %d and %d: %d %t, not %d", f, textByRule(p), arg, fuel, n, ok, deep)
	}
	said := []int{}
	for _, e := range want.Trace {
		if e.Kind == impl.EventSay {
			said = append(said, e.Value)
		}
	}
	if list, ok := impl.SaidNumbers(p, f, arg, fuel); !ok || !slices.Equal(list, said) {
		t.Fatalf("said by %d of %s with %d and %d: %v %t, not %v", f, textByRule(p), arg, fuel, list, ok, said)
	}
	return got
}

func countKind(trace []impl.Event, kind int) int {
	n := 0
	for _, e := range trace {
		if e.Kind == kind {
			n++
		}
	}
	return n
}

func returned(value int, spent int, trace ...impl.Event) impl.Outcome {
	return impl.Outcome{Kind: impl.OutReturned, Value: value, Spent: spent, Trace: trace}
}

func panicked(value int, spent int, trace ...impl.Event) impl.Outcome {
	return impl.Outcome{Kind: impl.OutPanicked, Value: value, Spent: spent, Trace: trace}
}

func exited(spent int, trace ...impl.Event) impl.Outcome {
	return impl.Outcome{Kind: impl.OutExited, Spent: spent, Trace: trace}
}

// The Events of traces, by short names.
func called(f int, v int) impl.Event  { return event(impl.EventCall, f, v) }
func waits(f int, v int) impl.Event   { return event(impl.EventDefer, f, v) }
func runs(f int, v int) impl.Event    { return event(impl.EventRun, f, v) }
func says(f int, v int) impl.Event    { return event(impl.EventSay, f, v) }
func throws(f int, v int) impl.Event  { return event(impl.EventPanic, f, v) }
func saves(f int, v int) impl.Event   { return event(impl.EventRecover, f, v) }
func returns(f int, v int) impl.Event { return event(impl.EventReturn, f, v) }
func unwinds(f int, v int) impl.Event { return event(impl.EventUnwind, f, v) }
func exits(f int) impl.Event          { return event(impl.EventExit, f, 0) }

func TestPromise2JustTheFuelAndEachOther(t *testing.T) {
	for i, p := range randomPrograms(1, 700) {
		for f := range p.Functions {
			checkFuels(t, p, f, edgeNumbers[(i+f)%len(edgeNumbers)])
		}
	}
}

func TestPromise2RunsAreThoseOfTheModel(t *testing.T) {
	var kinds [5]int
	var events [10]int
	for _, p := range randomPrograms(2, 12000) {
		for f := range p.Functions {
			for _, arg := range []int{-32768, 0, 1, 5, 32767} {
				o := checkModel(t, p, f, arg, impl.MaxFuel)
				kinds[o.Kind]++
				for _, e := range o.Trace {
					events[e.Kind]++
				}
			}
			checkModel(t, p, f, 1, 7)
		}
	}
	if slices.Min(kinds[1:]) < 1000 || slices.Min(events[1:]) < 1000 {
		t.Error("the programs are too much alike", kinds, events)
	}
}

func TestPromise2EachSmallProgramRunsAsTheModel(t *testing.T) {
	bodies := bodiesOf([]impl.Step{throw(0), save(1), save(3), exit(), outer(3), later(3, 0), call(3, 1)}, 2)
	for _, first := range []impl.Step{throw(0), exit(), give(0), call(3, 0), set(1, 4)} {
		for _, last := range [][]impl.Step{{throw(0)}, {exit()}, {save(2), outer(2)}, {later(4, 0), throw(0)}} {
			for _, one := range bodies {
				for _, two := range bodies {
					p := program(body(set(0, 1), later(1, 0), set(0, 2), later(2, 0), set(0, 3), first), one, two, last, body(save(0)))
					checkModel(t, p, 0, 0, impl.MaxFuel)
				}
			}
		}
	}
}

func TestPromise2EachDeferredCallIsRunOnce(t *testing.T) {
	spent := 0
	for _, p := range randomPrograms(3, 3000) {
		for f := range p.Functions {
			o, ok := impl.RunProgram(p, f, 1, impl.MaxFuel)
			put, run := countKind(o.Trace, impl.EventDefer), countKind(o.Trace, impl.EventRun)
			if !ok || run > put || o.Kind != impl.OutSpent && run != put {
				t.Fatalf("%d of %d deferred calls run: %d of %s", run, put, f, textByRule(p))
			}
			if o.Kind == impl.OutSpent && run < put {
				spent++
			}
		}
	}
	if spent == 0 {
		t.Error("no run is spent ahead of a deferred call")
	}
}

func TestPromise2SumsWrapAround(t *testing.T) {
	for want, sum := range map[int][2]int{-32768: {32767, 1}, 32767: {-32768, -1}, -2: {32767, 32767}, 0: {-32768, -32768},
		-1: {32767, -32768}, 32766: {-32767, -3}, -32767: {2, 32767}, 5: {2, 3}, -7: {-3, -4}} {
		for _, pair := range [][2]int{sum, {sum[1], sum[0]}} {
			p := program(body(set(2, pair[1]), add(0, 2), say(0), say(2), give(0)))
			checkRun(t, "sum", p, pair[0], returned(want, 5, called(0, pair[0]), says(0, want), says(0, pair[1]), returns(0, want)))
		}
	}
	for _, a := range edgeNumbers {
		twice, ok := impl.RunProgram(program(body(add(0, 0), give(0))), 0, a, 2)
		if !ok || twice.Value != wrapped(2*a) {
			t.Error("twice", a, twice)
		}
		for _, b := range edgeNumbers {
			said, ok := impl.SaidNumbers(program(body(set(1, b), add(1, 0), say(1))), 0, a, 3)
			if !ok || !slices.Equal(said, []int{wrapped(a + b)}) {
				t.Error("sum", a, b, said)
			}
		}
	}
}

func TestPromise2FuelOfZero(t *testing.T) {
	p := program(body(say(0)), body())
	o, ok := impl.RunProgram(p, 0, 9, 0)
	if !ok || !sameOutcome(o, impl.Outcome{Kind: impl.OutSpent, Trace: []impl.Event{called(0, 9)}}) {
		t.Error("a step without fuel", o, ok)
	}
	deep, one := impl.DeepestCall(p, 0, 9, 0)
	said, two := impl.SaidNumbers(p, 0, 9, 0)
	if !one || !two || deep != 1 || len(said) != 0 {
		t.Error("told of no fuel", deep, said)
	}
	o, ok = impl.RunProgram(p, 1, 9, 0)
	if !ok || !sameOutcome(o, returned(0, 0, called(1, 9), returns(1, 0))) {
		t.Error("no step without fuel", o, ok)
	}
	if fuel, ok := impl.FuelOf(p, 1, 9); !ok || fuel != 0 {
		t.Error("fuel of no step", fuel, ok)
	}
}

func TestPromise2FuelUpToMaxFuel(t *testing.T) {
	// The Steps at 1 and 2 are made once for each number from the argument to 1.
	p := program(body(set(3, -1), add(0, 3), jump(1, 0), say(3)))
	if fuel, ok := impl.FuelOf(p, 0, 99); !ok || fuel != impl.MaxFuel {
		t.Error("just all fuel", fuel, ok)
	}
	o, ok := impl.RunProgram(p, 0, 99, impl.MaxFuel)
	if !ok || o.Kind != impl.OutReturned || o.Spent != impl.MaxFuel || len(o.Trace) != 3 {
		t.Error("with all fuel", o, ok)
	}
	o, ok = impl.RunProgram(p, 0, 99, impl.MaxFuel-1)
	if !ok || !sameOutcome(o, impl.Outcome{Kind: impl.OutSpent, Spent: impl.MaxFuel - 1, Trace: []impl.Event{called(0, 99)}}) {
		t.Error("with one less", o, ok)
	}
	o, ok = impl.RunProgram(p, 0, 100, impl.MaxFuel)
	if !ok || !sameOutcome(o, impl.Outcome{Kind: impl.OutSpent, Spent: impl.MaxFuel, Trace: []impl.Event{called(0, 100)}}) {
		t.Error("beyond all fuel", o, ok)
	}
	if fuel, ok := impl.FuelOf(p, 0, 100); ok || fuel != 0 {
		t.Error("no fuel is enough", fuel, ok)
	}
	if fuel, ok := impl.FuelOf(program(body(set(0, 1), jump(1, 0))), 0, 0); ok || fuel != 0 {
		t.Error("a loop ends", fuel, ok)
	}
}

func TestPromise2NoStepIsLeftForDeferredCalls(t *testing.T) {
	p := program(body(later(1, 0), later(2, 0), throw(0)), body(say(0)), body())
	o, ok := impl.RunProgram(p, 0, 4, 3)
	want := impl.Outcome{Kind: impl.OutSpent, Spent: 3, Trace: []impl.Event{called(0, 4), waits(1, 4), waits(2, 4), throws(0, 4), runs(2, 4), returns(2, 0), runs(1, 4)}}
	if !ok || !sameOutcome(o, want) {
		t.Error("spent in a deferred call", o, ok)
	}
}

func TestPromise2CallsAreAsDeepAsMaxDepth(t *testing.T) {
	// With an argument n of at least 1, n calls are open at the same time.
	for _, again := range []impl.Step{call(0, 0), later(0, 0), call(1, 0), later(1, 0)} {
		other := body(set(3, -1), add(0, 3), jump(4, 0), exit(), call(0, 0))
		p := program(body(set(3, -1), add(0, 3), jump(4, 0), give(3), again), other)
		for n := 1; n <= impl.MaxDepth+3; n++ {
			o := checkModel(t, p, 0, n, impl.MaxFuel)
			deep, ok := impl.DeepestCall(p, 0, n, impl.MaxFuel)
			if !ok || deep != min(n, impl.MaxDepth) || (o.Kind == impl.OutSpent) != (n > impl.MaxDepth) {
				t.Error("deep", n, deep, ok, o)
			}
			fuel, ok := impl.FuelOf(p, 0, n)
			if ok != (n <= impl.MaxDepth) || !ok && fuel != 0 || ok && fuel != o.Spent {
				t.Error("fuel of deep calls", n, fuel, ok)
			}
			if begun := countKind(o.Trace, impl.EventCall) + countKind(o.Trace, impl.EventRun); begun != deep {
				t.Error("calls that begin", n, begun)
			}
			checkFuels(t, p, 0, n)
		}
	}
}

func TestPromise2TheStepThatGoesTooDeepIsMade(t *testing.T) {
	p := program(body(say(0), call(0, 0)))
	o, ok := impl.RunProgram(p, 0, 3, impl.MaxFuel)
	if !ok || o.Kind != impl.OutSpent || o.Value != 0 || o.Spent != 2*impl.MaxDepth || len(o.Trace) != 2*impl.MaxDepth {
		t.Error("too deep", o, ok)
	}
	p = program(body(later(0, 0), say(0)))
	o, ok = impl.RunProgram(p, 0, 3, impl.MaxFuel)
	if !ok || o.Kind != impl.OutSpent || o.Spent != 2*impl.MaxDepth || len(o.Trace) != 3*impl.MaxDepth {
		t.Error("too deep by deferred calls", o, ok)
	}
	// What is too deep is recovered by nothing, and runs no deferred call.
	p = program(body(later(1, 0), call(0, 0)), body(save(0)))
	o, ok = impl.RunProgram(p, 0, 3, impl.MaxFuel)
	if !ok || o.Kind != impl.OutSpent || countKind(o.Trace, impl.EventRun) != 0 || countKind(o.Trace, impl.EventUnwind) != 0 {
		t.Error("too deep with what recovers", o, ok)
	}
}

func TestPromise2CallsThatHaveEndedAreNotDeep(t *testing.T) {
	p := program(body(set(3, -1), call(1, 0), later(1, 0), add(0, 3), jump(1, 0)), body())
	if deep, ok := impl.DeepestCall(p, 0, 30, impl.MaxFuel); !ok || deep != 2 {
		t.Error("one by one", deep, ok)
	}
	o := checkModel(t, p, 0, 30, impl.MaxFuel)
	if o.Kind != impl.OutReturned || countKind(o.Trace, impl.EventRun) != 30 || countKind(o.Trace, impl.EventCall) != 31 {
		t.Error("one by one", o)
	}
}

func TestPromise2CallsHaveRegistersOfTheirOwn(t *testing.T) {
	p := program(body(set(1, 5), set(3, 6), call(1, 0), say(0), say(1), say(2), say(3)), body(say(0), say(1), say(2), say(3), set(0, 8), set(1, 9)))
	checkRun(t, "registers", p, 4, returned(5, 13, called(0, 4), called(1, 4), says(1, 4), says(1, 0), says(1, 0), says(1, 0), returns(1, 9),
		says(0, 4), says(0, 5), says(0, 9), says(0, 6), returns(0, 5)))
}

func TestPromise2TheSharedNumberIsThatOfAllCalls(t *testing.T) {
	p := program(body(take(1), say(1), keep(0), call(1, 1), take(2), say(2), later(1, 1)), body(take(3), say(3), add(3, 3), keep(3)))
	checkRun(t, "shared", p, 4, returned(0, 15, called(0, 4), says(0, 0), called(1, 0), says(1, 4), returns(1, 0), says(0, 8), waits(1, 0),
		runs(1, 0), says(1, 8), returns(1, 0), returns(0, 0)))
	// It begins with 0 in each run.
	checkRun(t, "shared again", program(body(take(1), keep(0))), 4, returned(0, 2, called(0, 4), returns(0, 0)))
}

func TestPromise2DeferredCallsHaveTheArgumentsOfTheirTime(t *testing.T) {
	p := program(body(later(1, 0), set(0, 7), later(1, 0), set(0, 8), later(2, 0)), body(say(0), set(1, 3)), body())
	checkRun(t, "arguments", p, 6, returned(0, 9, called(0, 6), waits(1, 6), waits(1, 7), waits(2, 8),
		runs(2, 8), returns(2, 0), runs(1, 7), says(1, 7), returns(1, 3), runs(1, 6), says(1, 6), returns(1, 3), returns(0, 0)))
}

func TestPromise2TheNamedResult(t *testing.T) {
	checkRun(t, "set", program(body(set(1, 3))), 6, returned(3, 1, called(0, 6), returns(0, 3)))
	checkRun(t, "returned", program(body(set(1, 3), give(0), set(1, 4))), 6, returned(6, 2, called(0, 6), returns(0, 6)))
	// StepOuter changes it behind the body, but only in a deferred call.
	checkRun(t, "outer", program(body(later(1, 0), give(0)), body(set(2, 9), outer(2))), 6,
		returned(9, 4, called(0, 6), waits(1, 6), runs(1, 6), returns(1, 0), returns(0, 9)))
	checkRun(t, "outer of the first call", program(body(outer(0))), 6, returned(0, 1, called(0, 6), returns(0, 0)))
	checkRun(t, "outer of a call", program(body(call(1, 0)), body(outer(0))), 6,
		returned(0, 2, called(0, 6), called(1, 6), returns(1, 0), returns(0, 0)))
	checkRun(t, "outer of a call of a deferred one", program(body(later(1, 0)), body(call(2, 0)), body(outer(0))), 6,
		returned(0, 3, called(0, 6), waits(1, 6), runs(1, 6), called(2, 6), returns(2, 0), returns(1, 0), returns(0, 0)))
	checkRun(t, "outer of the call that defers", program(body(later(1, 0)), body(later(2, 0)), body(outer(0))), 6,
		returned(0, 3, called(0, 6), waits(1, 6), runs(1, 6), waits(2, 6), runs(2, 6), returns(2, 0), returns(1, 6), returns(0, 0)))
	// A call that is recovered has the named result that it had.
	checkRun(t, "recovered", program(body(set(1, 3), later(1, 0), throw(0)), body(save(1))), 6,
		returned(3, 4, called(0, 6), waits(1, 6), throws(0, 6), runs(1, 6), saves(1, 6), returns(1, 6), returns(0, 3)))
}

func TestPromise2WhatACallLeavesIsLost(t *testing.T) {
	// The register 2 keeps what it has if a call does not return, or is a deferred one.
	p := program(body(set(2, 5), later(1, 0), later(2, 2), call(3, 0)), body(save(1)), body(say(0), set(1, 8)), body(set(1, 9), throw(0)))
	checkRun(t, "a panic", p, 6, returned(0, 9, called(0, 6), waits(1, 6), waits(2, 5), called(3, 6), throws(3, 6), unwinds(3, 6),
		runs(2, 5), says(2, 5), returns(2, 8), runs(1, 6), saves(1, 6), returns(1, 6), returns(0, 0)))
}

func TestPromise2PanicsGoOnAndAreReplaced(t *testing.T) {
	p := program(body(call(1, 0), say(0)), body(later(2, 0), call(3, 0), say(0)), body(set(2, 8), throw(2), say(2)), body(throw(0), say(0)))
	checkRun(t, "replaced", p, 6, panicked(8, 6, called(0, 6), called(1, 6), waits(2, 6), called(3, 6), throws(3, 6), unwinds(3, 6),
		runs(2, 6), throws(2, 8), unwinds(2, 8), unwinds(1, 8), unwinds(0, 8)))
	// A call that has returned or exits ends by a panic of a deferred one too.
	for _, end := range []impl.Step{give(0), exit(), throw(0)} {
		o := checkModel(t, program(body(later(1, 0), end), body(set(2, -1), throw(2))), 0, 6, impl.MaxFuel)
		if o.Kind != impl.OutPanicked || o.Value != -1 {
			t.Error("not replaced", end, o)
		}
	}
	// Two panics in one deferred call, the first recovered inside.
	p = program(body(later(1, 0), throw(0)), body(later(3, 0), call(2, 0)), body(set(1, 4), throw(1)), body(save(1)))
	o := checkModel(t, p, 0, 6, impl.MaxFuel)
	if o.Kind != impl.OutPanicked || o.Value != 6 {
		t.Error("replaced by what is recovered", o)
	}
}

func TestPromise2Exits(t *testing.T) {
	checkRun(t, "exit", program(body(call(1, 0), say(0)), body(set(1, 3), later(2, 0), exit(), say(0)), body(say(0))), 6,
		exited(5, called(0, 6), called(1, 6), waits(2, 6), runs(2, 6), says(2, 6), returns(2, 0), exits(1), exits(0)))
	for _, end := range []impl.Step{give(0), exit(), throw(0)} {
		o := checkModel(t, program(body(later(1, 0), end), body(exit())), 0, 6, impl.MaxFuel)
		if o.Kind != impl.OutExited || o.Value != 0 {
			t.Error("a deferred exit", end, o)
		}
	}
	// An exit is not recovered.
	checkRun(t, "no panic", program(body(later(1, 0), exit()), body(save(0), say(0), say(3))), 6,
		exited(5, called(0, 6), waits(1, 6), runs(1, 6), says(1, 0), says(1, 0), returns(1, 0), exits(0)))
}

func TestPromise2AReplacedExitIsTakenUpAgain(t *testing.T) {
	saver, thrower, leaver := body(save(0)), body(throw(0)), body(exit())
	both := body(later(2, 0), exit())
	for name, p := range map[string]impl.Program{
		"of the call itself":      program(body(later(1, 0), later(2, 0), exit()), saver, thrower),
		"of a call":               program(body(later(1, 0), call(3, 0)), saver, thrower, both),
		"of a call of a call":     program(body(later(1, 0), call(4, 0)), saver, thrower, both, body(call(3, 0))),
		"of a deferred call":      program(body(later(1, 0), later(3, 0)), saver, thrower, both),
		"of one before a panic":   program(body(later(1, 0), later(2, 0), later(3, 0)), saver, thrower, leaver),
		"of one that recovers":    program(body(later(1, 0), later(2, 0), later(3, 0), throw(0)), saver, thrower, body(save(0), exit())),
		"behind a panic":          program(body(later(1, 0), later(2, 0), later(3, 0), throw(0)), saver, thrower, leaver),
		"recovered, then another": program(body(later(1, 0), later(2, 0), later(1, 0), later(2, 0), exit()), saver, thrower),
	} {
		o := checkModel(t, p, 0, 6, impl.MaxFuel)
		if o.Kind != impl.OutExited || o.Value != 0 || countKind(o.Trace, impl.EventRecover) == 0 || o.Trace[len(o.Trace)-1] != exits(0) {
			t.Error(name, o)
		}
		checkFuels(t, p, 0, 6)
	}
	// Where the panic is not recovered, the run ends by it.
	o := checkModel(t, program(body(later(2, 0), exit()), saver, thrower), 0, 6, impl.MaxFuel)
	if o.Kind != impl.OutPanicked || o.Value != 6 {
		t.Error("not recovered", o)
	}
	// A deferred call that has recovered a panic inside is not leaving, nor is the call that runs it.
	o = checkModel(t, program(body(later(3, 0), throw(0)), saver, thrower, body(later(1, 0), call(2, 0))), 0, 6, impl.MaxFuel)
	if o.Kind != impl.OutPanicked {
		t.Error("recovered inside", o)
	}
	o = checkModel(t, program(body(later(1, 0), call(3, 0)), saver, leaver, body(throw(0), exit())), 0, 6, impl.MaxFuel)
	if o.Kind != impl.OutReturned {
		t.Error("an exit that is not made", o)
	}
}

func TestPromise2RecoversThatCount(t *testing.T) {
	checkRun(t, "counts", program(body(later(1, 0), throw(0)), body(save(2), say(2), say(3), outer(2))), 6,
		returned(6, 6, called(0, 6), waits(1, 6), throws(0, 6), runs(1, 6), saves(1, 6), says(1, 6), says(1, 1), returns(1, 0), returns(0, 6)))
	// The panic of a call arrives in that which made it, and is recovered there.
	checkRun(t, "of a call", program(body(later(1, 0), call(2, 0), say(0)), body(save(2)), body(throw(0))), -6,
		returned(0, 4, called(0, -6), waits(1, -6), called(2, -6), throws(2, -6), unwinds(2, -6), runs(1, -6), saves(1, -6), returns(1, 0), returns(0, 0)))
	// Each deferred call recovers the panic of the call that runs it.
	p := program(body(later(1, 0), throw(0)), body(later(2, 0), save(0), set(2, 9), throw(2)), body(save(0), say(0)))
	checkRun(t, "of a deferred call", p, 6, returned(0, 8, called(0, 6), waits(1, 6), throws(0, 6), runs(1, 6), waits(2, 6), saves(1, 6),
		throws(1, 9), runs(2, 6), saves(2, 9), says(2, 9), returns(2, 0), returns(1, 0), returns(0, 0)))
	// A panic of the one that recovers is the one that goes on.
	o := checkModel(t, program(body(later(1, 0), throw(0)), body(save(0), set(2, 9), throw(2))), 0, 6, impl.MaxFuel)
	if o.Kind != impl.OutPanicked || o.Value != 9 {
		t.Error("thrown again", o)
	}
	// So is an exit.
	o = checkModel(t, program(body(later(1, 0), throw(0)), body(save(0), exit())), 0, 6, impl.MaxFuel)
	if o.Kind != impl.OutExited {
		t.Error("exits behind it", o)
	}
}

func TestPromise2RecoversThatDoNotCount(t *testing.T) {
	idle := body(set(2, 7), set(3, 7), save(2), say(2), say(3))
	for name, p := range map[string]impl.Program{
		"in the first call":           program(idle),
		"in a call":                   program(body(call(1, 0)), idle),
		"in a deferred call":          program(body(later(1, 0)), idle),
		"behind a return":             program(body(later(1, 0), give(0)), idle),
		"behind an exit":              program(body(later(1, 0), exit()), idle),
		"in a call of a deferred one": program(body(later(2, 0), throw(0)), idle, body(call(1, 0))),
		"in one deferred by it":       program(body(later(2, 0), throw(0)), idle, body(later(1, 0))),
		"behind another one":          program(body(later(1, 0), later(2, 0), throw(0)), idle, body(save(0))),
		"in one deferred by another":  program(body(later(2, 0), throw(0)), idle, body(later(1, 0), save(0))),
		"while a panic goes on":       program(body(later(1, 0), call(2, 0)), body(), body(later(3, 0), throw(0)), body(call(4, 0)), idle),
		"ahead of a panic":            program(body(later(1, 0), later(2, 0)), body(), idle),
	} {
		o := checkModel(t, p, 0, 6, impl.MaxFuel)
		said, ok := impl.SaidNumbers(p, 0, 6, impl.MaxFuel)
		if !ok || !slices.Equal(said, []int{0, 0}) {
			t.Error(name, said, o)
		}
		checkFuels(t, p, 0, 6)
	}
	p := program(body(later(1, 0), throw(0)), body(save(2), say(2), say(3), save(2), say(2), say(3)))
	checkRun(t, "a second one", p, 6, returned(0, 8, called(0, 6), waits(1, 6), throws(0, 6), runs(1, 6), saves(1, 6), says(1, 6), says(1, 1),
		says(1, 0), says(1, 0), returns(1, 0), returns(0, 0)))
	// One in a call that itself counts no more leaves the panic to the next deferred call.
	p = program(body(later(1, 0), later(2, 0), throw(0)), body(save(2), say(2)), body(call(1, 0)))
	if said, ok := impl.SaidNumbers(p, 0, 6, impl.MaxFuel); !ok || !slices.Equal(said, []int{0, 6}) {
		t.Error("left to the next", said, ok)
	}
}

func TestPromise2RecoversToTheRegisterThree(t *testing.T) {
	three := body(set(3, 7), save(3), say(3))
	checkRun(t, "counts", program(body(later(1, 0), throw(0)), three), 6,
		returned(0, 5, called(0, 6), waits(1, 6), throws(0, 6), runs(1, 6), saves(1, 6), says(1, 1), returns(1, 0), returns(0, 0)))
	checkRun(t, "does not count", program(three), 6, returned(0, 3, called(0, 6), says(0, 0), returns(0, 0)))
	// A value of 0 is recovered too.
	checkRun(t, "of 0", program(body(later(1, 0), throw(0)), body(save(0), say(3))), 0,
		returned(0, 4, called(0, 0), waits(1, 0), throws(0, 0), runs(1, 0), saves(1, 0), says(1, 1), returns(1, 0), returns(0, 0)))
}

func TestPromise2Jumps(t *testing.T) {
	for place := range impl.MaxBody + 1 {
		p := program(body(jump(place, 0), set(1, 1), set(2, 2), set(3, 3)))
		for _, arg := range edgeNumbers {
			want := 4
			if arg > 0 && place > 0 {
				want = 1 + max(0, 4-place)
			}
			fuel, ok := impl.FuelOf(p, 0, arg)
			if loop := arg > 0 && place == 0; ok == loop || ok && fuel != want || !ok && fuel != 0 {
				t.Error("jump to", place, arg, fuel, ok)
			}
		}
	}
	// Behind the last Step of the longest body, deferred calls are run as ever.
	longest := body(later(1, 0), set(2, 1), set(2, 1), jump(8, 2), say(0), say(0), say(0), say(0))
	checkRun(t, "to MaxBody", program(longest, body(say(0))), 6, returned(0, 5, called(0, 6), waits(1, 6), runs(1, 6), says(1, 6), returns(1, 0), returns(0, 0)))
	checkRun(t, "back", program(body(set(3, -1), say(0), add(0, 3), jump(1, 0))), 3,
		returned(0, 10, called(0, 3), says(0, 3), says(0, 2), says(0, 1), returns(0, 0)))
}

func TestPromise2FunctionsWithoutSteps(t *testing.T) {
	checkRun(t, "alone", program(nil), 6, returned(0, 0, called(0, 6), returns(0, 0)))
	checkRun(t, "called", program(body(set(2, 5), call(1, 0), say(2), later(1, 2)), body()), 6,
		returned(0, 4, called(0, 6), called(1, 6), returns(1, 0), says(0, 0), waits(1, 0), runs(1, 0), returns(1, 0), returns(0, 0)))
	for f := range 2 {
		p := program(nil, body())
		list, one := impl.CalledBy(p, f)
		reached, two := impl.ReachedFrom(p, f)
		if !one || !two || len(list) != 0 || !slices.Equal(reached, []int{f}) {
			t.Error("reached from", f, list, reached)
		}
	}
}

func TestPromise2CalledByAndReachedFrom(t *testing.T) {
	for _, p := range randomPrograms(4, 3000) {
		reach := [6][6]bool{}
		for f, b := range p.Functions {
			reach[f][f] = true
			direct := [6]bool{}
			for _, s := range b {
				if s.Kind == impl.StepCall || s.Kind == impl.StepDefer {
					direct[s.A], reach[f][s.A] = true, true
				}
			}
			checkNumbers(t, p, f, impl.CalledBy, direct)
		}
		for k := range 6 {
			for i := range 6 {
				for j := range 6 {
					reach[i][j] = reach[i][j] || reach[i][k] && reach[k][j]
				}
			}
		}
		for f := range p.Functions {
			checkNumbers(t, p, f, impl.ReachedFrom, reach[f])
		}
	}
}

// checkNumbers checks a function that tells numbers of functions in ascending order.
func checkNumbers(t *testing.T, p impl.Program, f int, tell func(impl.Program, int) ([]int, bool), member [6]bool) {
	t.Helper()
	want := []int{}
	for g, is := range member {
		if is {
			want = append(want, g)
		}
	}
	if got, ok := tell(p, f); !ok || !slices.Equal(got, want) {
		t.Fatalf("of %d of %s: %v %t, not %v", f, textByRule(p), got, ok, want)
	}
}

// jumpsTo returns a body of as many StepJumps to places, with all registers in turn.
func jumpsTo(places ...int) []impl.Step {
	b := body()
	for i, place := range places {
		b = append(b, jump(place, i%impl.Registers))
	}
	return b
}

func TestPromise2PutStepMovesJumps(t *testing.T) {
	other := jumpsTo(0, 1, 2, 3, 4, 5, 6, 8)
	for places := range impl.MaxBody {
		for place := range impl.MaxBody + 1 {
			b := jumpsTo(slices.Repeat([]int{place}, places)...)
			for at := range places + 1 {
				moved := place
				if place >= at && place < 8 {
					moved++
				}
				for _, s := range []impl.Step{say(0), jump(at, 1), jump(8, 2), jump(0, 3)} {
					want := program(other, slices.Insert(jumpsTo(slices.Repeat([]int{moved}, places)...), at, s))
					if got, ok := impl.PutStep(program(other, b), 1, at, s); !ok || !sameProgram(got, want) {
						t.Errorf("put %v at %d of %v: %v %t", s, at, b, got, ok)
					}
				}
			}
		}
	}
	if got, ok := impl.PutStep(program(body(call(0, 0), later(0, 1), set(2, 1))), 0, 0, exit()); !ok || !sameProgram(got, program(body(exit(), call(0, 0), later(0, 1), set(2, 1)))) {
		t.Error("steps that are no jumps are moved", got, ok)
	}
}

func TestPromise2DropStepMovesJumps(t *testing.T) {
	other := jumpsTo(0, 1, 2, 3, 4, 5, 6, 8)
	for places := 1; places <= impl.MaxBody; places++ {
		for place := range impl.MaxBody + 1 {
			b := jumpsTo(slices.Repeat([]int{place}, places)...)
			for at := range places {
				moved := place
				if place > at {
					moved--
				}
				left := slices.Delete(jumpsTo(slices.Repeat([]int{moved}, places)...), at, at+1)
				if got, ok := impl.DropStep(program(other, b), 1, at); !ok || !sameProgram(got, program(other, left)) {
					t.Errorf("dropped at %d of %v: %v %t", at, b, got, ok)
				}
			}
		}
	}
	if got, ok := impl.DropStep(program(body(exit())), 0, 0); !ok || !sameProgram(got, program(nil)) {
		t.Error("dropped the only step", got, ok)
	}
}

func TestPromise2WhatIsPutAndDroppedIsTheProgramAgain(t *testing.T) {
	put := 0
	for _, p := range randomPrograms(5, 2000) {
		for f, b := range p.Functions {
			last := slices.ContainsFunc(b, func(s impl.Step) bool { return s.Kind == impl.StepJump && s.A == impl.MaxBody })
			for at := range len(b) + 1 {
				for _, s := range []impl.Step{say(1), jump(3, 2), jump(8, 0)} {
					more, ok := impl.PutStep(p, f, at, s)
					if ok != (len(b) < impl.MaxBody) {
						t.Fatalf("put at %d of %d of %s: %t", at, f, textByRule(p), ok)
					}
					if !ok || last {
						continue
					}
					put++
					if less, ok := impl.DropStep(more, f, at); !ok || !sameProgram(less, p) {
						t.Fatalf("put and dropped at %d of %d of %s: %s", at, f, textByRule(p), textByRule(less))
					}
				}
			}
		}
	}
	if put < 1000 {
		t.Error("too few are put", put)
	}
}

func TestPromise2AStepThatDoesNothingLeavesRunsAsTheyAre(t *testing.T) {
	compared := 0
	for _, p := range randomPrograms(6, 1500) {
		one, ok := impl.RunProgram(p, 0, 1, impl.MaxFuel)
		if !ok || one.Kind == impl.OutSpent {
			continue
		}
		for f, b := range p.Functions {
			for at := range min(len(b)+1, impl.MaxBody) {
				more, ok := impl.PutStep(p, f, at, jump(at+1, 0))
				two, fine := impl.RunProgram(more, 0, 1, impl.MaxFuel)
				if ok != fine || ok != (len(b) < impl.MaxBody) {
					t.Fatalf("put at %d of %d of %s: %t %t", at, f, textByRule(p), ok, fine)
				}
				if !ok || two.Kind == impl.OutSpent {
					continue
				}
				compared++
				if two.Spent = one.Spent; !sameOutcome(one, two) {
					t.Fatalf("another run of %s than of %s", textByRule(more), textByRule(p))
				}
			}
		}
	}
	if compared < 1000 {
		t.Error("too few are compared", compared)
	}
}

func TestPromise2PutAndDropRefuseOthers(t *testing.T) {
	full := body(say(0), say(0), say(0), say(0), say(0), say(0), say(0), say(0))
	p := program(body(say(0), say(1)), full, nil)
	for f := -2; f <= 4; f++ {
		for at := -2; at <= 10; at++ {
			size := -1
			if 0 <= f && f < 3 {
				size = len(p.Functions[f])
			}
			more, ok := impl.PutStep(p, f, at, exit())
			if want := 0 <= at && at <= size && size < 8; ok != want || ok && len(more.Functions[f]) != size+1 || !ok && len(more.Functions) != 0 {
				t.Error("put", f, at, more, ok)
			}
			less, ok := impl.DropStep(p, f, at)
			if want := 0 <= at && at < size; ok != want || ok && len(less.Functions[f]) != size-1 || !ok && len(less.Functions) != 0 {
				t.Error("dropped", f, at, less, ok)
			}
		}
	}
	for _, s := range []impl.Step{{}, {Kind: 14}, call(3, 0), later(-1, 0), say(4), set(0, 32768), {Kind: impl.StepSay, B: 1}, {Kind: impl.StepExit, A: 1}, jump(9, 0)} {
		if more, ok := impl.PutStep(p, 0, 0, s); ok || len(more.Functions) != 0 {
			t.Error("put", s, more)
		}
	}
	for _, at := range []int{math.MinInt, math.MaxInt, 1 << 32, -1 << 32} {
		more, one := impl.PutStep(p, 0, at, say(0))
		less, two := impl.DropStep(p, 0, at)
		if one || two || len(more.Functions) != 0 || len(less.Functions) != 0 {
			t.Error("at", at, more, less)
		}
	}
}

func TestPromise2IsStepIsTheTable(t *testing.T) {
	values := append([]int{math.MinInt, -1 << 32, -32769, 4, 5, 6, 7, 8, 9, 32768, 65536, 1<<32 + 1, math.MaxInt}, edgeNumbers...)
	for functions := 1; functions <= impl.MaxFunctions; functions++ {
		p := program(make([][]impl.Step, functions)...)
		for _, kind := range []int{math.MinInt, -1, 0, 1, 2, 3, 4, 5, 6, 7, 8, 9, 10, 11, 12, 13, 14, 15, 257, 1<<32 + 3, math.MaxInt} {
			for _, a := range values {
				for _, b := range values {
					s := impl.Step{Kind: kind, A: a, B: b}
					is, ok := impl.IsStep(p, s)
					if !ok || is != validStep(s, functions) {
						t.Fatal("step", functions, s, is, ok)
					}
					with := program(p.Functions...)
					with.Functions[functions-1] = body(exit(), s)
					if impl.IsProgram(with) != is {
						t.Fatal("a program with the step", functions, s, is)
					}
					with.Functions[functions-1] = nil
				}
			}
		}
	}
}

// invalidPrograms are no Programs, though all but one thing of them may be right.
func invalidPrograms() []impl.Program {
	nine := make([]impl.Step, impl.MaxBody+1)
	for i := range nine {
		nine[i] = exit()
	}
	return []impl.Program{{}, program(), program(nil, nil, nil, nil, nil, nil, nil), program(nine), program(nil, nine),
		program(body(impl.Step{})), program(body(impl.Step{Kind: 14})), program(body(impl.Step{Kind: -3})), program(body(say(4))),
		program(body(say(-1))), program(body(call(1, 0))), program(body(later(1, 0))), program(nil, body(call(2, 0))), program(body(call(-1, 0))),
		program(body(set(0, 32768))), program(body(set(0, -32769))), program(body(jump(9, 0))), program(body(jump(-1, 0))), program(body(jump(0, 4))),
		program(body(impl.Step{Kind: impl.StepExit, B: 1})), program(body(impl.Step{Kind: impl.StepTake, A: 1, B: -1})),
		program(body(exit()), body(exit(), exit(), impl.Step{Kind: math.MinInt})), program(make([][]impl.Step, 1<<20)...), program(make([]impl.Step, 1<<20))}
}

func TestPromise2IsProgram(t *testing.T) {
	for i, p := range invalidPrograms() {
		if impl.IsProgram(p) || validProgram(p) {
			t.Error("a program", i)
		}
	}
	for _, p := range randomPrograms(7, 500) {
		if !impl.IsProgram(p) {
			t.Error("no program", textByRule(p))
		}
	}
	for n := range impl.MaxBody + 3 {
		b := make([]impl.Step, n)
		for i := range b {
			b[i] = exit()
		}
		if impl.IsProgram(program(nil, b)) != (n <= impl.MaxBody) || impl.IsProgram(program(make([][]impl.Step, n)...)) != (1 <= n && n <= impl.MaxFunctions) {
			t.Error("as long as", n)
		}
	}
}

func TestPromise2EachProgramIsReadAgain(t *testing.T) {
	programs := append(randomPrograms(8, 3000), program(nil), program(body(), body()), program(nil, body(exit()), nil, nil, nil, nil))
	full := make([]impl.Step, impl.MaxBody)
	for i := range full {
		full[i] = set(3, -32768+i)
	}
	for _, p := range append(programs, program(full, full, full, full, full, full)) {
		s, ok := impl.ProgramText(p)
		if !ok || s != textByRule(p) {
			t.Fatalf("written: %q %t", s, ok)
		}
		if back, ok := impl.ParseProgram(s); !ok || !sameProgram(back, p) {
			t.Fatalf("read %q: %q %t", s, textByRule(back), ok)
		}
	}
}

// programByRule reads the text of a Program by trial, beside the program.
func programByRule(s string) (impl.Program, bool) {
	var p impl.Program
	for _, text := range strings.Split(s, "/") {
		b := body()
		for _, step := range strings.FieldsFunc(text, func(c rune) bool { return c == ' ' }) {
			var n [3]int
			for i, number := range strings.SplitN(step, ".", 3) {
				n[i], _ = strconv.Atoi(number)
			}
			b = append(b, impl.Step{Kind: n[0], A: n[1], B: n[2]})
		}
		p.Functions = append(p.Functions, b)
	}
	return p, validProgram(p) && textByRule(p) == s
}

func TestPromise2ParseProgramReadsTextsOfProgramsAlone(t *testing.T) {
	read := 0
	for _, whole := range []string{"", "/", "5.1.0 6.0.0/7.1.0 9.1.0", "1.3.-32768/", "10.0.0", "1.0.10 11.8.3", "/////", "4.0.3 1.2.0 10.0.0//13.1.0"} {
		for at := range len(whole) + 1 {
			for _, put := range []string{"", "0", "1", "2", "3", "4", "9", "-", "+", ".", " ", "/", "\n", "_", "x", "\xff", "/ ", "00", ".0", "1.0.0", " 2.0.0", "10.0.0/"} {
				for _, skip := range []int{0, 1, 2, 6} {
					s := whole[:at] + put + whole[min(at+skip, len(whole)):]
					want, valid := programByRule(s)
					got, ok := impl.ParseProgram(s)
					if ok != valid || ok && !sameProgram(got, want) || !ok && len(got.Functions) != 0 {
						t.Fatalf("read %q: %s %t", s, textByRule(got), ok)
					}
					if ok {
						read++
					}
				}
			}
		}
	}
	if read < 100 {
		t.Error("too few texts of programs", read)
	}
}

func TestPromise2ParseProgramRefusesOthers(t *testing.T) {
	steps := strings.Repeat("10.0.0 ", impl.MaxBody)
	for _, s := range []string{" ", "//////", "10", "10.0", "10.0.0.0", "10.0.", ".0.0", "10..0", "10.0.0 ", " 10.0.0", "10.0.0  10.0.0", "10.0.0\t10.0.0",
		"010.0.0", "+10.0.0", "10.00.0", "10.-0.0", "10.0.-0", "1.0.+5", "1.0.05", "1.0.32768", "1.0.-32769", "1.4.0", "1.-1.0", "4.1.0", "4.0.4", "5.1.0",
		"0.0.0", "14.0.0", "-1.0.0", "3.0.1", "10.1.0", "10.0.1", "11.9.0", "10.0.0 /", "/ ", "10.0.0,10.0.0", "10.0.0/\n", "10,0,0", "１0.0.0",
		steps + "10.0.0", "/" + steps + "10.0.0", steps, strings.Repeat("/", 5000), strings.Repeat("10.0.0 ", 600), strings.Repeat("9", 1<<20)} {
		if p, ok := impl.ParseProgram(s); ok || len(p.Functions) != 0 {
			t.Errorf("read %.40q: %d functions", s, len(p.Functions))
		}
	}
}

func TestPromise2RunsRefuseOthers(t *testing.T) {
	p := program(body(say(0)), nil)
	for _, f := range []int{math.MinInt, -1, 0, 1, 2, 6, 1 << 32, math.MaxInt} {
		for _, arg := range []int{math.MinInt, -32769, -32768, 32767, 32768, 65536, math.MaxInt} {
			for _, fuel := range []int{math.MinInt, -1, 0, 200, 201, 1 << 32, math.MaxInt} {
				valid := (f == 0 || f == 1) && -32768 <= arg && arg <= 32767 && 0 <= fuel && fuel <= 200
				o, one := impl.RunProgram(p, f, arg, fuel)
				said, two := impl.SaidNumbers(p, f, arg, fuel)
				deep, three := impl.DeepestCall(p, f, arg, fuel)
				least, four := impl.FuelOf(p, f, arg)
				if one != valid || two != valid || three != valid || valid && !four {
					t.Error("run", f, arg, fuel, one, two, three, four)
				}
				if !valid && (!sameOutcome(o, impl.Outcome{}) || len(said) != 0 || deep != 0) || !four && least != 0 {
					t.Error("told of no run", f, arg, fuel, o, said, deep, least)
				}
			}
		}
		list, one := impl.CalledBy(p, f)
		reached, two := impl.ReachedFrom(p, f)
		if valid := f == 0 || f == 1; one != valid || two != valid || len(list) != 0 || !valid && len(reached) != 0 {
			t.Error("functions", f, list, reached, one, two)
		}
	}
	if least, ok := impl.FuelOf(p, 0, 32768); ok || least != 0 {
		t.Error("fuel of no argument", least, ok)
	}
}

func TestPromise13WhatIsNoProgramFails(t *testing.T) {
	for i, p := range invalidPrograms() {
		is, one := impl.IsStep(p, exit())
		o, two := impl.RunProgram(p, 0, 0, 9)
		said, three := impl.SaidNumbers(p, 0, 0, 9)
		list, four := impl.CalledBy(p, 0)
		reached, five := impl.ReachedFrom(p, 0)
		fuel, six := impl.FuelOf(p, 0, 0)
		deep, seven := impl.DeepestCall(p, 0, 0, 9)
		more, eight := impl.PutStep(p, 0, 0, exit())
		less, nine := impl.DropStep(p, 0, 0)
		text, ten := impl.ProgramText(p)
		if one || two || three || four || five || six || seven || eight || nine || ten {
			t.Error("does not fail", i, one, two, three, four, five, six, seven, eight, nine, ten)
		}
		if is || !sameOutcome(o, impl.Outcome{}) || len(said)+len(list)+len(reached)+fuel+deep+len(more.Functions)+len(less.Functions)+len(text) != 0 {
			t.Error("tells of no program", i, is, o, said, list, reached, fuel, deep, more, less, text)
		}
	}
}

// spread returns the same Program with bodies that lie in longer memory, and that memory.
func spread(p impl.Program) (impl.Program, [][]impl.Step) {
	behind := [][]impl.Step{}
	whole := [][]impl.Step{}
	for _, b := range p.Functions {
		long := append(slices.Clone(b), say(3), exit(), throw(2))
		behind = append(behind, long)
		whole = append(whole, long[:len(b)])
	}
	return impl.Program{Functions: append(whole, nil, body(exit()))[:len(p.Functions)]}, behind
}

// checkUnmodified lets functions use a Program in longer memory, and checks that all of it stays.
func checkUnmodified(t *testing.T, p impl.Program, use func(given impl.Program)) {
	t.Helper()
	given, behind := spread(p)
	before := [][]impl.Step{}
	for _, b := range behind {
		before = append(before, slices.Clone(b))
	}
	use(given)
	whole := given.Functions[:len(p.Functions)+2]
	if !sameProgram(given, p) || !slices.EqualFunc(behind, before, slices.Equal[[]impl.Step]) || whole[len(p.Functions)] != nil || len(whole[len(p.Functions)+1]) != 1 {
		t.Fatalf("modified %s", textByRule(p))
	}
}

func TestPromise13MachinesModifyNothing(t *testing.T) {
	for _, p := range append(randomPrograms(9, 300), invalidPrograms()[:22]...) {
		checkUnmodified(t, p, func(given impl.Program) {
			for f := -1; f <= len(p.Functions); f++ {
				one, _ := impl.RunProgram(given, f, 1, impl.MaxFuel)
				two, _ := impl.RunProgram(given, f, 1, impl.MaxFuel)
				if !sameOutcome(one, two) {
					t.Fatalf("another outcome of %s", textByRule(p))
				}
				for at := -1; at <= impl.MaxBody; at++ {
					more, _ := impl.PutStep(given, f, at, jump(2, 1))
					again, _ := impl.PutStep(given, f, at, jump(2, 1))
					less, _ := impl.DropStep(given, f, at)
					fewer, _ := impl.DropStep(given, f, at)
					if !sameProgram(more, again) || !sameProgram(less, fewer) {
						t.Fatalf("another program of %s", textByRule(p))
					}
				}
				impl.SaidNumbers(given, f, 1, 50)
				impl.DeepestCall(given, f, 1, 50)
				impl.FuelOf(given, f, 1)
				impl.CalledBy(given, f)
				impl.ReachedFrom(given, f)
			}
			impl.ProgramText(given)
			impl.IsStep(given, exit())
		})
	}
}

// overwrite gives all Steps of a Program another value, and its functions other bodies.
func overwrite(p impl.Program) {
	for f, b := range p.Functions {
		b = b[:cap(b)]
		for i := range b {
			b[i] = impl.Step{Kind: 99, A: 99, B: 99}
		}
		p.Functions[f] = nil
	}
}

// checkProgramsApart builds Programs again and again, and checks that they share no memory with
// each other or with p.
func checkProgramsApart(t *testing.T, p impl.Program, builds ...func() (impl.Program, bool)) {
	t.Helper()
	before := copied(p)
	for _, build := range builds {
		first, one := build()
		second, two := build()
		want := copied(second)
		overwrite(first)
		third, three := build()
		if !one || !two || !three || !sameProgram(p, before) || !sameProgram(second, want) || !sameProgram(third, want) {
			t.Error("a result shares memory", textByRule(p), textByRule(second), textByRule(third))
		}
		for f, b := range second.Functions {
			_ = append(b, exit(), exit())
			if !sameProgram(second, want) {
				t.Error("bodies share memory", f)
			}
		}
	}
}

func TestPromise13ProgramsThatAreReturnedAreApart(t *testing.T) {
	p := program(body(say(0), jump(1, 0), later(1, 2)), body(save(0)), body(exit(), call(0, 1)))
	checkProgramsApart(t, p,
		func() (impl.Program, bool) { return impl.PutStep(p, 1, 1, say(2)) },
		func() (impl.Program, bool) { return impl.PutStep(p, 0, 3, say(2)) },
		func() (impl.Program, bool) { return impl.DropStep(p, 0, 1) },
		func() (impl.Program, bool) { return impl.DropStep(p, 2, 1) },
		func() (impl.Program, bool) { return impl.ParseProgram("3.0.0 11.1.0 5.1.2/7.0.0//10.0.0 4.0.1") },
	)
}

func TestPromise13ListsOfRunsAreApart(t *testing.T) {
	p := program(body(say(0), call(1, 0), later(1, 0)), body(say(0)))
	one, _ := impl.RunProgram(p, 0, 4, 99)
	two, _ := impl.RunProgram(p, 0, 4, 99)
	want := slices.Clone(two.Trace)
	for i := range one.Trace {
		one.Trace[i] = impl.Event{}
	}
	if !slices.Equal(two.Trace, want) {
		t.Error("traces share memory", two)
	}
	checkListsApart(t,
		func() ([]int, bool) { return impl.SaidNumbers(p, 0, 4, 99) },
		func() ([]int, bool) { return impl.CalledBy(p, 0) },
		func() ([]int, bool) { return impl.ReachedFrom(p, 0) },
	)
}

// checkListsApart tells lists again and again, and checks that they share no memory with each
// other.
func checkListsApart(t *testing.T, tells ...func() ([]int, bool)) {
	t.Helper()
	for i, tell := range tells {
		first, _ := tell()
		second, ok := tell()
		want := slices.Clone(second)
		first = first[:cap(first)]
		for at := range first {
			first[at] = -7
		}
		third, _ := tell()
		if !ok || !slices.Equal(second, want) || !slices.Equal(third, want) || len(want) == 0 {
			t.Error("lists share memory", i, second, third)
		}
	}
}
