package tests

import (
	"math"
	"math/rand/v2"
	"slices"
	"testing"

	"loop.example/g01183/impl"
)

// rescue is what the functions of chapter 5 tell of a run.
type rescue struct {
	saved    []int
	ends     [4]int
	gaps     []int
	rethrows int
}

// tellRescue asks all functions of chapter 5 that tell of a run, of one that is valid.
func tellRescue(t *testing.T, p impl.Program, f int, arg int, fuel int) rescue {
	t.Helper()
	var all rescue
	var ok [4]bool
	all.saved, ok[0] = impl.SavedCalls(p, f, arg, fuel)
	all.ends, ok[1] = impl.SavedEnds(p, f, arg, fuel)
	all.gaps, ok[2] = impl.RecoverGaps(p, f, arg, fuel)
	all.rethrows, ok[3] = impl.Rethrows(p, f, arg, fuel)
	if ok != [4]bool{true, true, true, true} {
		t.Fatalf("%d of %s with %d and %d: %v", f, textByRule(p), arg, fuel, ok)
	}
	return all
}

// modelRescue tells of a run what the model has written down.
func modelRescue(p impl.Program, f int, arg int, fuel int) rescue {
	m := modelOf(p, f, arg, fuel)
	all := rescue{saved: m.savedCalls, gaps: m.gaps, rethrows: m.rethrows}
	for _, c := range m.calls {
		switch {
		case !c.saved:
		case !c.ended:
			all.ends[3]++
		default:
			all.ends[c.kind-1]++
		}
	}
	return all
}

func sameRescue(a rescue, b rescue) bool {
	return slices.Equal(a.saved, b.saved) && a.ends == b.ends && slices.Equal(a.gaps, b.gaps) && a.rethrows == b.rethrows
}

// parentsOfRecovers returns the parents of the calls to which the EventRecovers of a run belong.
func parentsOfRecovers(p impl.Program, f int, arg int, fuel int) []int {
	o, _ := impl.RunProgram(p, f, arg, fuel)
	owners, _ := impl.OwnersOf(p, f, arg, fuel)
	calls, _ := impl.CallTree(p, f, arg, fuel)
	var parents []int
	for at, e := range o.Trace {
		if e.Kind == impl.EventRecover {
			parents = append(parents, calls[owners[at]].Parent)
		}
	}
	return parents
}

// checkRescue compares what is told of the recoveries of a run with the model, and with what
// chapter 5 guarantees.
func checkRescue(t *testing.T, p impl.Program, f int, arg int, fuel int) rescue {
	t.Helper()
	got, want := tellRescue(t, p, f, arg, fuel), modelRescue(p, f, arg, fuel)
	if !sameRescue(got, want) {
		t.Fatalf("%d of %s with %d and %d: %v, not %v", f, textByRule(p), arg, fuel, got, want)
	}
	if len(got.saved) == 0 {
		return got
	}
	if !slices.Equal(got.saved, parentsOfRecovers(p, f, arg, fuel)) || slices.Min(got.gaps) < 0 {
		t.Fatalf("%d of %s with %d and %d: %v", f, textByRule(p), arg, fuel, got)
	}
	guards := make([]bool, len(p.Functions))
	for by := range p.Functions {
		list, _ := impl.GuardsOf(p, by)
		for _, g := range list {
			guards[g] = true
		}
	}
	idle, _ := impl.IdleRecovers(p, f)
	savers, _ := impl.RecoveredBy(p, f, arg, fuel)
	for _, pair := range savers {
		if !guards[pair[1]] || slices.ContainsFunc(idle, func(place [2]int) bool { return place[0] == pair[1] }) {
			t.Fatalf("%d recovers in %d of %s with %d and %d", pair[1], f, textByRule(p), arg, fuel)
		}
	}
	return got
}

// checkRescueWithLess checks what is told of the recoveries of a run with each fuel. With less,
// those that count are the first ones of the longer run.
func checkRescueWithLess(t *testing.T, p impl.Program, f int, arg int) {
	t.Helper()
	full := checkRescue(t, p, f, arg, impl.MaxFuel)
	for fuel := range impl.MaxFuel {
		short := checkRescue(t, p, f, arg, fuel)
		far := len(short.saved)
		if far > len(full.saved) || !slices.Equal(short.saved, full.saved[:far]) || !slices.Equal(short.gaps, full.gaps[:far]) || short.rethrows > full.rethrows {
			t.Fatalf("%d of %s with %d and %d: %v", f, textByRule(p), arg, fuel, short)
		}
	}
}

// checkSaved compares a run of the function 0 with all that is to be told of its recoveries.
func checkSaved(t *testing.T, name string, p impl.Program, arg int, fuel int, want rescue) {
	t.Helper()
	if got := checkRescue(t, p, 0, arg, fuel); !sameRescue(got, want) {
		t.Errorf("%s: %v, not %v", name, got, want)
	}
}

// recoveringPrograms returns valid Programs, always the same ones for the same seed: those that
// panic, of whose bodies many begin with a StepRecover.
func recoveringPrograms(seed uint64, count int) []impl.Program {
	r := rand.New(rand.NewPCG(seed, 5))
	all := panickingPrograms(seed, count)
	for _, p := range all {
		for f, b := range p.Functions {
			if len(b) < impl.MaxBody && r.IntN(2) == 0 {
				p.Functions[f] = append(body(save(r.IntN(4))), b...)
			}
		}
	}
	return all
}

func TestPromise5WhatIsToldIsWhatTheModelWritesDown(t *testing.T) {
	var ends [4]int
	var twice, rethrows, deepest int
	for _, p := range append(randomPrograms(51, 2000), recoveringPrograms(51, 3000)...) {
		for f := range p.Functions {
			for _, run := range [][2]int{{-32768, impl.MaxFuel}, {1, impl.MaxFuel}, {5, 40}, {1, 9}} {
				all := checkRescue(t, p, f, run[0], run[1])
				saved := 0
				for i, n := range all.ends {
					ends[i] += n
					saved += n
				}
				if saved < len(all.saved) {
					twice++
				}
				rethrows += all.rethrows
				deepest = max(deepest, slices.Max(append(all.gaps, 0)))
			}
		}
	}
	if slices.Min(ends[:]) < 1000 || twice < 1000 || rethrows < 1000 || deepest < 4 {
		t.Error("the runs are too much alike", ends, twice, rethrows, deepest)
	}
}

func TestPromise5EachSmallProgramIsSavedAsTheModel(t *testing.T) {
	bodies := bodiesOf([]impl.Step{throw(0), save(1), exit(), later(3, 0), call(3, 1)}, 2)
	for _, first := range []impl.Step{throw(0), exit(), give(0), call(3, 0)} {
		for _, last := range [][]impl.Step{{throw(0)}, {exit()}, {save(2)}, {save(2), throw(2)}, {later(4, 0), throw(0)}} {
			for _, one := range bodies {
				for _, two := range bodies {
					p := program(body(set(0, 1), later(1, 0), set(0, 2), later(2, 0), set(0, 3), first), one, two, last, body(save(0)))
					checkRescue(t, p, 0, 0, impl.MaxFuel)
				}
			}
		}
	}
}

func TestPromise5EachFuel(t *testing.T) {
	told := 0
	for i, p := range append(randomPrograms(52, 200), recoveringPrograms(52, 200)...) {
		arg := edgeNumbers[i%len(edgeNumbers)]
		if all := checkRescue(t, p, 0, arg, impl.MaxFuel); len(all.saved) > 0 {
			told++
			checkRescueWithLess(t, p, 0, arg)
		}
	}
	if told < 100 {
		t.Error("too few runs are saved", told)
	}
}

func TestPromise5ACallThatIsSaved(t *testing.T) {
	saver := body(save(0), outer(0))
	checkSaved(t, "the first call", program(body(later(1, 0), throw(0)), saver), 7, impl.MaxFuel,
		rescue{saved: []int{0}, ends: [4]int{1, 0, 0, 0}, gaps: []int{0}})
	checkSaved(t, "of a panic of a call of a call", program(body(later(1, 0), call(2, 0)), saver, body(call(3, 0)), body(throw(0))), 7, impl.MaxFuel,
		rescue{saved: []int{0}, ends: [4]int{1, 0, 0, 0}, gaps: []int{2}})
	checkSaved(t, "of a panic of a call of a deferred one", program(body(later(1, 0), later(2, 0)), saver, body(call(3, 0)), body(throw(0))), 7, impl.MaxFuel,
		rescue{saved: []int{0}, ends: [4]int{1, 0, 0, 0}, gaps: []int{2}})
	// The panic that is recovered is the one that has replaced the first, and was made deeper.
	checkSaved(t, "of a panic that replaces one", program(body(later(1, 0), later(2, 0), throw(0)), saver, body(call(3, 0)), body(throw(0))), 7, impl.MaxFuel,
		rescue{saved: []int{0}, ends: [4]int{1, 0, 0, 0}, gaps: []int{2}})
	// The first call goes on behind one that is saved, and behind it ends by a panic of its own.
	p := program(body(call(1, 0), throw(0)), body(later(2, 0), throw(0)), saver)
	checkSaved(t, "a call", p, 7, impl.MaxFuel, rescue{saved: []int{1}, ends: [4]int{1, 0, 0, 0}, gaps: []int{0}})
	if o, _ := impl.RunProgram(p, 0, 7, impl.MaxFuel); o.Kind != panics {
		t.Error("the first call", o)
	}
	// Calls are told by their numbers, not by their functions, and in the order of the recoveries.
	checkSaved(t, "calls of one function", program(body(call(1, 0), call(2, 0), call(1, 0)), body(later(3, 0), throw(0)), nil, saver), 7, impl.MaxFuel,
		rescue{saved: []int{1, 4}, ends: [4]int{2, 0, 0, 0}, gaps: []int{0, 0}})
	checkSaved(t, "one inside first", program(body(later(2, 0), call(1, 0), throw(0)), body(later(2, 0), throw(0)), saver), 7, impl.MaxFuel,
		rescue{saved: []int{1, 0}, ends: [4]int{2, 0, 0, 0}, gaps: []int{0, 0}})
	// The call that is saved may be a deferred one, inside the panic of another.
	checkSaved(t, "a deferred one", program(body(later(1, 0), throw(0)), body(later(2, 0), throw(0)), saver), 7, impl.MaxFuel,
		rescue{saved: []int{1}, ends: [4]int{1, 0, 0, 0}, gaps: []int{0}})
	// The panic of the deepest call is recovered by the first one.
	deep := program(body(set(3, -1), later(2, 0), call(1, 0)), body(set(3, -1), add(0, 3), jump(4, 0), throw(3), call(1, 0)), saver)
	checkSaved(t, "the deepest", deep, impl.MaxDepth-1, impl.MaxFuel, rescue{saved: []int{0}, ends: [4]int{1, 0, 0, 0}, gaps: []int{impl.MaxDepth - 1}})
}

func TestPromise5CallsThatAreSavedMoreThanOnce(t *testing.T) {
	saver, thrower, again := body(save(0)), body(throw(0)), body(save(0), throw(0))
	checkSaved(t, "twice", program(body(later(1, 0), later(2, 0), later(1, 0), throw(0)), saver, thrower), 7, impl.MaxFuel,
		rescue{saved: []int{0, 0}, ends: [4]int{1, 0, 0, 0}, gaps: []int{0, 1}})
	checkSaved(t, "by what makes it panic again", program(body(later(2, 0), later(2, 0), later(2, 0), throw(0)), nil, again), 7, impl.MaxFuel,
		rescue{saved: []int{0, 0, 0}, ends: [4]int{0, 1, 0, 0}, gaps: []int{0, 1, 1}, rethrows: 3})
	checkSaved(t, "saved at last", program(body(later(1, 0), later(2, 0), later(2, 0), throw(0)), saver, again), 7, impl.MaxFuel,
		rescue{saved: []int{0, 0, 0}, ends: [4]int{1, 0, 0, 0}, gaps: []int{0, 1, 1}, rethrows: 2})
	// Another call between them is counted for itself.
	p := program(body(later(1, 0), later(2, 0), later(3, 0), throw(0)), saver, again, body(call(4, 0)), body(later(1, 0), throw(0)))
	checkSaved(t, "another between", p, 7, impl.MaxFuel,
		rescue{saved: []int{2, 0, 0}, ends: [4]int{2, 0, 0, 0}, gaps: []int{0, 0, 1}, rethrows: 1})
	checkRescueWithLess(t, p, 0, 7)
	// It is saved once by a deferred call, however many StepRecovers that has.
	checkSaved(t, "once", program(body(later(1, 0), throw(0)), body(save(0), save(1), save(2))), 7, impl.MaxFuel,
		rescue{saved: []int{0}, ends: [4]int{1, 0, 0, 0}, gaps: []int{0}})
	// Exits that follow do not make it saved less.
	checkSaved(t, "ahead of an exit", program(body(later(2, 0), later(1, 0), throw(0)), saver, body(exit())), 7, impl.MaxFuel,
		rescue{saved: []int{0}, ends: [4]int{0, 0, 1, 0}, gaps: []int{0}})
}

func TestPromise5SavedCallsThatAreLeaving(t *testing.T) {
	saver, thrower, leaver := body(save(0)), body(throw(0)), body(exit())
	p := program(body(later(1, 0), later(2, 0), exit()), saver, thrower)
	checkSaved(t, "an exit", p, 7, impl.MaxFuel, rescue{saved: []int{0}, ends: [4]int{0, 0, 1, 0}, gaps: []int{1}})
	checkRescueWithLess(t, p, 0, 7)
	checkSaved(t, "an exit of a deferred call", program(body(later(1, 0), later(2, 0), later(3, 0)), saver, thrower, leaver), 7, impl.MaxFuel,
		rescue{saved: []int{0}, ends: [4]int{0, 0, 1, 0}, gaps: []int{1}})
	checkSaved(t, "an exit of a call", program(body(later(1, 0), later(2, 0), call(3, 0)), saver, thrower, leaver), 7, impl.MaxFuel,
		rescue{saved: []int{0}, ends: [4]int{0, 0, 1, 0}, gaps: []int{1}})
	// The deferred call that recovers exits itself, and so it does if it panics behind the exit.
	checkSaved(t, "an exit of the guard", program(body(later(1, 0), throw(0)), body(save(0), exit())), 7, impl.MaxFuel,
		rescue{saved: []int{0}, ends: [4]int{0, 0, 1, 0}, gaps: []int{0}})
	checkSaved(t, "a panic over the exit of the guard", program(body(later(2, 0), later(1, 0), throw(0)), body(save(0), later(3, 0), exit()), saver, thrower), 7, impl.MaxFuel,
		rescue{saved: []int{0, 0}, ends: [4]int{0, 0, 1, 0}, gaps: []int{0, 2}})
	// An exit alone is recovered by none.
	checkSaved(t, "nothing", program(body(later(1, 0), exit()), saver), 7, impl.MaxFuel, rescue{})
	checkSaved(t, "a panic that is lost", program(body(later(1, 0), later(3, 0), throw(0)), saver, nil, leaver), 7, impl.MaxFuel, rescue{})
}

func TestPromise5SavedCallsOfRunsThatAreSpent(t *testing.T) {
	p := program(body(later(2, 0), later(1, 0), throw(0)), body(save(0), say(0)), body(set(2, 3), throw(2)))
	before, spent := rescue{}, rescue{saved: []int{0}, ends: [4]int{0, 0, 0, 1}, gaps: []int{0}}
	ended := rescue{saved: []int{0}, ends: [4]int{0, 1, 0, 0}, gaps: []int{0}}
	for fuel, want := range []rescue{before, before, before, before, spent, spent, spent, ended, ended} {
		checkSaved(t, "with less", p, 7, fuel, want)
	}
	// A call inside has ended, and the one outside has not.
	p = program(body(later(1, 0), call(2, 0), throw(0)), body(save(0), jump(1, 3)), body(later(3, 0), throw(0)), body(save(0)))
	checkSaved(t, "outside", p, 7, impl.MaxFuel, rescue{saved: []int{1, 0}, ends: [4]int{1, 0, 0, 1}, gaps: []int{0, 0}})
	checkRescueWithLess(t, p, 0, 7)
	// A call that the guard makes goes too deep.
	p = program(body(later(1, 0), throw(0)), body(save(0), call(1, 0)))
	checkSaved(t, "too deep", p, 7, impl.MaxFuel, rescue{saved: []int{0}, ends: [4]int{0, 0, 0, 1}, gaps: []int{0}})
	// A panic behind a recovery is told before all is spent.
	p = program(body(later(1, 0), throw(0)), body(later(2, 0), save(0), throw(0)), body(jump(0, 0)))
	checkSaved(t, "behind a rethrow", p, 7, impl.MaxFuel, rescue{saved: []int{0}, ends: [4]int{0, 0, 0, 1}, gaps: []int{0}, rethrows: 1})
	for fuel, count := range []int{0, 0, 0, 0, 0, 1, 1} {
		if n, ok := impl.Rethrows(p, 0, 7, fuel); !ok || n != count {
			t.Error("rethrows with", fuel, n, ok)
		}
	}
}

func TestPromise5RecoversThatNeverCount(t *testing.T) {
	saver, thrower := body(save(0)), body(throw(0))
	for name, p := range map[string]impl.Program{
		"in the first call":              program(body(save(0), throw(0))),
		"in a call":                      program(body(call(1, 0), throw(0)), saver),
		"in a call of a deferred one":    program(body(later(1, 0), throw(0)), body(call(2, 0)), saver),
		"deferred by a deferred one":     program(body(later(1, 0), throw(0)), body(later(2, 0)), saver),
		"where the call returns":         program(body(later(1, 0), give(0)), saver),
		"where the call exits":           program(body(later(1, 0), exit()), saver),
		"deferred behind the panic":      program(body(throw(0), later(1, 0)), saver),
		"in a function that none defers": program(body(throw(0)), saver),
		"behind a panic of a guard":      program(body(later(1, 0), throw(0)), body(throw(0), save(0))),
		"without recovers":               program(body(later(1, 0), call(1, 0)), thrower),
		"without Steps":                  program(nil, saver),
	} {
		for _, fuel := range []int{0, 1, 2, 3, impl.MaxFuel} {
			checkSaved(t, name, p, 7, fuel, rescue{})
		}
	}
}

func TestPromise5PanicsInGuardsAndInDeferredCalls(t *testing.T) {
	saver, thrower := body(save(0)), body(throw(0))
	ended := [4]int{0, 1, 0, 0}
	checkSaved(t, "with the same value", program(body(later(1, 0), throw(0)), body(save(0), throw(0))), 7, impl.MaxFuel,
		rescue{saved: []int{0}, ends: ended, gaps: []int{0}, rethrows: 1})
	checkSaved(t, "with another value", program(body(later(1, 0), throw(0)), body(save(1), set(2, 5), throw(2))), 7, impl.MaxFuel,
		rescue{saved: []int{0}, ends: ended, gaps: []int{0}, rethrows: 1})
	// A call that the guard makes, or defers, is another one, of whose Steps none has counted.
	checkSaved(t, "of a call of the guard", program(body(later(1, 0), throw(0)), body(save(0), call(2, 0)), thrower), 7, impl.MaxFuel,
		rescue{saved: []int{0}, ends: ended, gaps: []int{0}})
	checkSaved(t, "of a deferred call of the guard", program(body(later(1, 0), throw(0)), body(save(0), later(2, 0)), thrower), 7, impl.MaxFuel,
		rescue{saved: []int{0}, ends: ended, gaps: []int{0}})
	checkSaved(t, "of a call of the same function", program(body(later(1, 0), throw(0)), body(save(1), jump(3, 3), throw(0), call(1, 1))), 7, impl.MaxFuel,
		rescue{saved: []int{0}, ends: ended, gaps: []int{0}})
	// Nor does a StepRecover count that comes behind the first one, or where no panic is on.
	checkSaved(t, "that does not count", program(body(later(1, 0)), body(save(1), throw(0))), 7, impl.MaxFuel, rescue{})
	checkSaved(t, "of the call that is saved", program(body(save(0), later(1, 0), throw(0)), saver), 7, impl.MaxFuel,
		rescue{saved: []int{0}, ends: [4]int{1, 0, 0, 0}, gaps: []int{0}})
	// Calls of one function differ: the first one that is run recovers, and the other one panics.
	turns := program(body(set(2, 5), later(1, 2), set(2, -5), later(1, 2), throw(0)), body(save(1), jump(3, 0), give(0), throw(0)))
	checkSaved(t, "of another call of the function", turns, 7, impl.MaxFuel, rescue{saved: []int{0}, ends: ended, gaps: []int{0}})
	turned := program(body(set(2, -5), later(1, 2), set(2, 5), later(1, 2), throw(0)), body(save(1), jump(3, 0), give(0), throw(0)))
	checkSaved(t, "of the call of the function", turned, 7, impl.MaxFuel,
		rescue{saved: []int{0, 0}, ends: [4]int{1, 0, 0, 0}, gaps: []int{0, 1}, rethrows: 1})
	// A guard that panics without a recovery replaces the panic.
	checkSaved(t, "ahead of a recovery", program(body(later(1, 0), later(2, 0), throw(0)), saver, body(throw(1), save(0))), 7, impl.MaxFuel,
		rescue{saved: []int{0}, ends: [4]int{1, 0, 0, 0}, gaps: []int{1}})
	// A guard that panics again is saved by a deferred call of its own.
	inside := program(body(later(1, 0), throw(0)), body(later(2, 0), save(0), throw(0)), saver)
	checkSaved(t, "saved itself", inside, 7, impl.MaxFuel,
		rescue{saved: []int{0, 1}, ends: [4]int{2, 0, 0, 0}, gaps: []int{0, 0}, rethrows: 1})
	for _, p := range []impl.Program{turns, turned, inside} {
		checkRescueWithLess(t, p, 0, 7)
	}
}

// recoverPlaces returns the places of all StepRecovers of a body.
func recoverPlaces(b []impl.Step) []int {
	var places []int
	for at, s := range b {
		if s.Kind == impl.StepRecover {
			places = append(places, at)
		}
	}
	return places
}

// idleByRule tells as chapter 5 says it, beside the program, which StepRecovers are idle.
func idleByRule(p impl.Program, f int) pairs {
	var reached, deferred [6]bool
	reached[f] = true
	for range 6 {
		for g, b := range p.Functions {
			for _, s := range b {
				if reached[g] && (s.Kind == impl.StepCall || s.Kind == impl.StepDefer) {
					reached[s.A] = true
					deferred[s.A] = deferred[s.A] || s.Kind == impl.StepDefer
				}
			}
		}
	}
	var idle pairs
	for g, b := range p.Functions {
		for _, at := range recoverPlaces(b) {
			if reached[g] && !deferred[g] {
				idle = append(idle, [2]int{g, at})
			}
		}
	}
	return idle
}

// guardsByRule tells as chapter 5 says it, beside the program, which guards a function has.
func guardsByRule(p impl.Program, f int) []int {
	var guards [6]bool
	for _, s := range p.Functions[f] {
		if s.Kind == impl.StepDefer && len(recoverPlaces(p.Functions[s.A])) > 0 {
			guards[s.A] = true
		}
	}
	var list []int
	for g, member := range guards {
		if member {
			list = append(list, g)
		}
	}
	return list
}

func TestPromise5GuardsAndIdleRecoversAreThoseOfTheirRule(t *testing.T) {
	var guards, idle [4]int
	small := bodiesOf([]impl.Step{later(0, 0), later(1, 1), call(1, 0), call(2, 0), save(1)}, 2)
	programs := append(randomPrograms(53, 2000), recoveringPrograms(53, 1000)...)
	for _, one := range small {
		for _, two := range small {
			programs = append(programs, program(one, two, body(save(2), later(0, 3), save(0))))
		}
	}
	for _, p := range programs {
		for f := range p.Functions {
			got, one := impl.GuardsOf(p, f)
			places, two := impl.IdleRecovers(p, f)
			if !one || !two || !slices.Equal(got, guardsByRule(p, f)) || !slices.Equal(places, idleByRule(p, f)) {
				t.Fatalf("%d of %s: %v %v", f, textByRule(p), got, places)
			}
			guards[min(3, len(got))]++
			idle[min(3, len(places))]++
		}
	}
	if slices.Min(guards[:]) < 50 || slices.Min(idle[:]) < 500 {
		t.Error("the programs are too much alike", guards, idle)
	}
}

func TestPromise5GuardsOf(t *testing.T) {
	p := program(body(later(4, 0), later(2, 0), later(3, 1), later(2, 3), call(1, 0)), body(save(0)), body(say(0), save(1)), body(call(1, 0)), body(save(0), throw(0)), nil)
	for f, want := range [][]int{{2, 4}, {}, {}, {}, {}, {}} {
		if guards, ok := impl.GuardsOf(p, f); !ok || !slices.Equal(guards, want) {
			t.Error("guards of", f, guards, ok)
		}
	}
	// A function may be a guard of its own, and a Step that is never made defers as well.
	for _, p := range []impl.Program{program(body(later(0, 0), save(0))), program(body(exit(), save(2), later(0, 0)))} {
		if guards, ok := impl.GuardsOf(p, 0); !ok || !slices.Equal(guards, []int{0}) {
			t.Error("its own guard", textByRule(p), guards, ok)
		}
	}
	for _, p := range []impl.Program{program(nil), program(body(save(0))), program(body(later(1, 0)), nil), program(body(call(1, 0)), body(save(0)))} {
		if guards, ok := impl.GuardsOf(p, 0); !ok || len(guards) != 0 {
			t.Error("no guards", textByRule(p), guards, ok)
		}
	}
}

func TestPromise5IdleRecovers(t *testing.T) {
	saver := body(save(0), say(0), save(3))
	for name, given := range map[string]struct {
		p    impl.Program
		want pairs
	}{
		"of the first function":               {program(body(say(0), save(1), save(1))), pairs{{0, 1}, {0, 2}}},
		"of functions that are called":        {program(body(call(2, 0), save(0), call(1, 0)), saver, saver), pairs{{0, 1}, {1, 0}, {1, 2}, {2, 0}, {2, 2}}},
		"of functions that are reached alone": {program(body(call(2, 0)), saver, body(save(0))), pairs{{2, 0}}},
		"none that is deferred":               {program(body(later(1, 0), call(1, 0)), saver), nil},
		"none that defers itself":             {program(body(call(1, 0)), body(save(0), later(1, 0))), nil},
		"none that another reached defers":    {program(body(call(1, 0), call(2, 0)), saver, body(later(1, 0))), nil},
		"deferred by one that is not reached": {program(body(call(1, 0)), saver, body(later(1, 0), save(0))), pairs{{1, 0}, {1, 2}}},
		"ahead of all that is deferred":       {program(body(save(0), later(1, 0)), body(save(0), later(2, 0)), body(save(0))), pairs{{0, 0}}},
		"without recovers":                    {program(body(later(1, 0), call(1, 0)), body(throw(0))), nil},
		"without Steps":                       {program(nil, saver), nil},
	} {
		if idle, ok := impl.IdleRecovers(given.p, 0); !ok || !slices.Equal(idle, given.want) {
			t.Error(name, idle, ok)
		}
	}
}

// guard is one of the guards of chapter 5, and what adds it.
type guard struct {
	name string
	body []impl.Step
	add  func(p impl.Program, f int) (impl.Program, bool)
}

func allGuards() []guard {
	return []guard{
		{"tells", body(save(0), jump(3, 3), give(0), outer(0)), impl.TellingGuard},
		{"swallows", body(save(0)), impl.SwallowingGuard},
		{"throws again", body(save(0), jump(3, 3), give(0), throw(0)), impl.ThrowingGuard},
	}
}

// guardByRule adds a guard of f as chapters 3 and 5 say it, beside the program.
func guardByRule(p impl.Program, f int, g guard) (impl.Program, bool) {
	if len(p.Functions) == 6 || len(p.Functions[f]) == 8 {
		return impl.Program{}, false
	}
	more := copied(p)
	more.Functions = append(more.Functions, body(g.body...))
	return withDeferByRule(more, f, len(p.Functions), 0), true
}

func TestPromise5GuardsAreAddedByTheirRule(t *testing.T) {
	added, not := 0, 0
	for _, p := range append(randomPrograms(54, 2000), recoveringPrograms(54, 500)...) {
		for f := range p.Functions {
			for _, g := range allGuards() {
				want, can := guardByRule(p, f, g)
				got, ok := g.add(p, f)
				if ok != can || !sameProgram(got, want) || ok && !impl.IsProgram(got) {
					t.Fatalf("%d of %s that %s: %s %t", f, textByRule(p), g.name, textByRule(got), ok)
				}
				if !ok {
					not++
					continue
				}
				added++
				guards, _ := impl.GuardsOf(got, f)
				if !slices.Contains(guards, len(p.Functions)) {
					t.Fatalf("no guard of %d of %s: %v", f, textByRule(got), guards)
				}
			}
		}
	}
	if added < 1000 || not < 1000 {
		t.Error("the programs are too much alike", added, not)
	}
}

func TestPromise5GuardsAreDeferredFirstOfAll(t *testing.T) {
	p := program(nil, body(jump(0, 0), later(0, 0), jump(3, 1), jump(8, 2)))
	for i, want := range []string{
		"/5.2.0 11.1.0 5.0.0 11.4.1 11.8.2/7.0.0 11.3.3 8.0.0 9.0.0",
		"/5.2.0 11.1.0 5.0.0 11.4.1 11.8.2/7.0.0",
		"/5.2.0 11.1.0 5.0.0 11.4.1 11.8.2/7.0.0 11.3.3 8.0.0 6.0.0",
	} {
		g := allGuards()[i]
		if got, ok := g.add(p, 1); !ok || textByRule(got) != want {
			t.Error(g.name, textByRule(got), ok)
		}
	}
	// A body that begins again does not defer its guard again.
	loop := program(body(set(3, -1), add(0, 3), jump(1, 0), throw(3)))
	guarded, _ := impl.TellingGuard(loop, 0)
	ran, ok := impl.RunBy(guarded, 0, 5, impl.MaxFuel, 0)
	if o, _ := impl.RunProgram(guarded, 0, 5, impl.MaxFuel); !ok || !slices.Equal(ran, pairs{{1, 5}}) || o.Kind != back || o.Value != -1 {
		t.Error("in a loop", ran, o)
	}
}

func TestPromise5GuardsThatCannotBeAdded(t *testing.T) {
	full := body(say(0), say(0), say(0), say(0), say(0), say(0), say(0), throw(0))
	for name, p := range map[string]impl.Program{
		"as there are MaxFunctions functions": program(body(throw(0)), nil, nil, nil, nil, nil),
		"as there is no place in the body":    program(full),
		"for both reasons":                    program(full, nil, nil, nil, nil, full),
	} {
		for _, g := range allGuards() {
			if got, ok := g.add(p, 0); ok || len(got.Functions) != 0 {
				t.Error(g.name, name, textByRule(got))
			}
		}
		if points, ok := impl.GuardPoints(p, 0, 7, impl.MaxFuel); !ok || len(points) != 0 {
			t.Error("points", name, points, ok)
		}
	}
	// There is a last place, and a last function, for a guard.
	for _, p := range []impl.Program{program(full[1:]), program(body(throw(0)), full, full, full, full)} {
		for _, g := range allGuards() {
			got, ok := g.add(p, 0)
			if want, _ := guardByRule(p, 0, g); !ok || !sameProgram(got, want) {
				t.Error(g.name, "at the last place", textByRule(got), ok)
			}
		}
		if points, ok := impl.GuardPoints(p, 0, 7, impl.MaxFuel); !ok || !slices.Equal(points, []int{0}) {
			t.Error("the last place", points, ok)
		}
	}
	// No place in another body matters.
	p := program(body(call(1, 0)), full)
	for _, g := range allGuards() {
		_, one := g.add(p, 0)
		if got, two := g.add(p, 1); !one || two || len(got.Functions) != 0 {
			t.Error(g.name, "in another body", one, two)
		}
	}
}

// guardedRuns runs each function of Programs with each guard that can be added to it, and hands
// over the Program without it and the Program with it.
func guardedRuns(programs []impl.Program, use func(p impl.Program, guarded [3]impl.Program, f int, arg int)) {
	for i, p := range programs {
		for f := range p.Functions {
			var guarded [3]impl.Program
			can := true
			for k, g := range allGuards() {
				var ok bool
				guarded[k], ok = g.add(p, f)
				can = can && ok
			}
			for _, arg := range []int{edgeNumbers[i%len(edgeNumbers)], 1} {
				if can {
					use(p, guarded, f, arg)
				}
			}
		}
	}
}

// guardable returns Programs to most of whose functions guards can be added.
func guardable(seed uint64) []impl.Program {
	programs := append(randomPrograms(seed, 2500), recoveringPrograms(seed, 2500)...)
	bodies := bodiesOf([]impl.Step{throw(0), save(1), exit(), outer(0), later(2, 0), call(0, 0)}, 2)
	for _, one := range bodies {
		for _, two := range bodies {
			programs = append(programs, program(append(body(later(1, 0)), one...), two, body(throw(1))))
		}
	}
	return programs
}

func TestPromise5WithAGuardNoRunEndsByAPanic(t *testing.T) {
	stopped := 0
	guardedRuns(guardable(55), func(p impl.Program, guarded [3]impl.Program, f int, arg int) {
		without, _ := impl.RunProgram(p, f, arg, impl.MaxFuel)
		if without.Kind == panics {
			stopped++
		}
		for k := range 2 {
			for _, fuel := range []int{impl.MaxFuel, 50, 9, 7, 5, 4, 3, 2, 1, 0} {
				if o, ok := impl.RunProgram(guarded[k], f, arg, fuel); !ok || o.Kind == panics {
					t.Fatalf("%d of %s with %d and %d: %v", f, textByRule(guarded[k]), arg, fuel, o)
				}
			}
			// Nor does any call of f, wherever it is made.
			calls, _ := impl.CallTree(guarded[k], 0, arg, impl.MaxFuel)
			for _, c := range calls {
				if c.Function == f && c.End == panics {
					t.Fatalf("a call of %d in %s with %d: %v", f, textByRule(guarded[k]), arg, calls)
				}
			}
		}
	})
	if stopped < 1000 {
		t.Error("too few runs would end by a panic", stopped)
	}
}

func TestPromise5AGuardThatTellsReturnsTheValueOrExits(t *testing.T) {
	var told, left int
	guardedRuns(guardable(56), func(p impl.Program, guarded [3]impl.Program, f int, arg int) {
		m := modelOf(guarded[0], f, arg, impl.MaxFuel)
		calls, _ := impl.CallTree(guarded[0], f, arg, impl.MaxFuel)
		o, _ := impl.RunProgram(guarded[0], f, arg, impl.MaxFuel)
		for at, e := range o.Trace {
			if e.Kind != impl.EventRecover || e.Function != len(p.Functions) {
				continue
			}
			saved := calls[m.owners[at]].Parent
			want := impl.CallInfo{Function: f, Parent: calls[saved].Parent, Deferred: calls[saved].Deferred, End: back, Value: e.Value}
			if m.calls[saved].leaving {
				want.End, want.Value = leaves, 0
			}
			switch {
			case calls[saved].End == stops:
			case calls[saved] != want:
				t.Fatalf("call %d in %d of %s with %d: %v, not %v", saved, f, textByRule(guarded[0]), arg, calls[saved], want)
			case want.End == leaves:
				left++
			default:
				told++
			}
		}
	})
	if told < 1000 || left < 100 {
		t.Error("too few calls are saved", told, left)
	}
}

// endsOnce reports whether no call of f but the first one is made in a run with the fuel MaxFuel,
// and the run is not spent.
func endsOnce(m *modelRun, f int) bool {
	for _, c := range m.calls[1:] {
		if c.function == f {
			return false
		}
	}
	return !m.stopped
}

func TestPromise5GuardsChangeTheEndsOfPanicsAlone(t *testing.T) {
	var changed, kept, left int
	guardedRuns(guardable(57), func(p impl.Program, guarded [3]impl.Program, f int, arg int) {
		without := modelOf(p, f, arg, impl.MaxFuel)
		for k := range 2 {
			o, _ := impl.RunProgram(guarded[k], f, arg, impl.MaxFuel)
			if o.Kind == stops || !endsOnce(without, f) {
				continue
			}
			first := without.calls[0]
			kind, value := first.kind, first.value
			switch {
			case kind != panics:
				kept++
			case first.leaving:
				left++
				kind, value = leaves, 0
			default:
				changed++
				kind = back
				if k == 1 {
					value = first.reg[1]
				}
			}
			if o.Kind != kind || o.Value != value {
				t.Fatalf("%d of %s with %d: %v, not %d %d", f, textByRule(guarded[k]), arg, o, kind, value)
			}
		}
	})
	if changed < 1000 || kept < 1000 || left < 50 {
		t.Error("the runs are too much alike", changed, kept, left)
	}
}

func TestPromise5AGuardThatThrowsAgainChangesNoEnd(t *testing.T) {
	var ends [5]int
	again := 0
	guardedRuns(guardable(58), func(p impl.Program, guarded [3]impl.Program, f int, arg int) {
		o, _ := impl.RunProgram(guarded[2], f, arg, impl.MaxFuel)
		if o.Kind == stops {
			return
		}
		ends[o.Kind]++
		without, ok := impl.RunProgram(p, f, arg, impl.MaxFuel)
		// But for what the guard itself does, the Trace is the same too.
		others := slices.DeleteFunc(slices.Clone(o.Trace), func(e impl.Event) bool { return e.Function == len(p.Functions) })
		if !ok || o.Kind != without.Kind || o.Value != without.Value || !slices.Equal(others, without.Trace) {
			t.Fatalf("%d of %s with %d: %v, not %v", f, textByRule(guarded[2]), arg, o, without)
		}
		thrown, one := impl.Rethrows(guarded[2], f, arg, impl.MaxFuel)
		before, two := impl.Rethrows(p, f, arg, impl.MaxFuel)
		count := 0
		for _, e := range o.Trace {
			if e.Kind == impl.EventPanic && e.Function == len(p.Functions) {
				count++
			}
		}
		if !one || !two || thrown != before+count || o.Kind == panics && count == 0 {
			t.Fatalf("rethrows of %d of %s with %d: %d %d %d", f, textByRule(guarded[2]), arg, thrown, before, count)
		}
		again += count
	})
	if slices.Min(ends[1:4]) < 1000 || again < 1000 {
		t.Error("the runs are too much alike", ends, again)
	}
}

// checkGuarded runs a function with each guard, and compares the Kinds and Values of the Outcomes.
func checkGuarded(t *testing.T, name string, p impl.Program, f int, arg int, want [3][2]int) {
	t.Helper()
	for k, g := range allGuards() {
		guarded, ok := g.add(p, f)
		o, fine := impl.RunProgram(guarded, 0, arg, impl.MaxFuel)
		if !ok || !fine || [2]int{o.Kind, o.Value} != want[k] {
			t.Errorf("%s, with a guard that %s: %v, not %v", name, g.name, o, want[k])
		}
	}
}

func TestPromise5RunsWithGuards(t *testing.T) {
	saver, thrower := body(save(0)), body(throw(0))
	checkGuarded(t, "a panic", program(body(set(1, 4), throw(0))), 0, 7, [3][2]int{{back, 7}, {back, 4}, {panics, 7}})
	checkGuarded(t, "a panic of 0", program(body(set(1, 4), throw(0))), 0, 0, [3][2]int{{back, 0}, {back, 4}, {panics, 0}})
	checkGuarded(t, "a negative panic", program(body(set(1, 4), throw(0))), 0, -32768, [3][2]int{{back, -32768}, {back, 4}, {panics, -32768}})
	checkGuarded(t, "a return", program(body(set(1, 4))), 0, 7, [3][2]int{{back, 4}, {back, 4}, {back, 4}})
	checkGuarded(t, "an exit", program(body(set(1, 4), exit())), 0, 7, [3][2]int{{leaves, 0}, {leaves, 0}, {leaves, 0}})
	checkGuarded(t, "no Steps", program(nil), 0, 7, [3][2]int{{back, 0}, {back, 0}, {back, 0}})
	// It is the panic that would end the call which is told, behind all other deferred calls.
	checkGuarded(t, "a panic of a call", program(body(set(1, 4), call(1, 0)), thrower), 0, 7, [3][2]int{{back, 7}, {back, 4}, {panics, 7}})
	checkGuarded(t, "a panic of a deferred call", program(body(set(2, 9), later(1, 2), set(1, 4), throw(0)), thrower), 0, 7, [3][2]int{{back, 9}, {back, 4}, {panics, 9}})
	checkGuarded(t, "a panic that is recovered", program(body(later(1, 0), set(1, 4), throw(0)), saver), 0, 7, [3][2]int{{back, 4}, {back, 4}, {back, 4}})
	checkGuarded(t, "a panic of a guard", program(body(later(1, 0), set(1, 4), throw(0)), body(save(0), add(0, 0), throw(0))), 0, 7,
		[3][2]int{{back, 14}, {back, 4}, {panics, 14}})
	checkGuarded(t, "a result of a deferred call", program(body(later(1, 0), throw(0)), body(set(2, 5), outer(2))), 0, 7, [3][2]int{{back, 7}, {back, 5}, {panics, 7}})
	// A call that is leaving exits where its panic is recovered.
	checkGuarded(t, "a panic over an exit", program(body(later(1, 0), exit()), thrower), 0, 7, [3][2]int{{leaves, 0}, {leaves, 0}, {panics, 7}})
	checkGuarded(t, "an exit over a panic", program(body(later(1, 0), throw(0)), body(exit())), 0, 7, [3][2]int{{leaves, 0}, {leaves, 0}, {leaves, 0}})
	// A guard of another function saves calls of that one alone, which then give their values.
	other := program(body(call(1, 0), add(0, 2), throw(0)), thrower)
	checkGuarded(t, "of another function", other, 1, 7, [3][2]int{{panics, 14}, {panics, 7}, {panics, 7}})
	// Each call of a function that calls itself is saved.
	self := program(body(set(3, -1), add(0, 3), jump(4, 0), throw(3), call(0, 0), add(2, 3), give(2)))
	checkGuarded(t, "calls of itself", self, 0, 5, [3][2]int{{back, -5}, {back, -4}, {panics, -1}})
	// A guard for which there is no fuel, or that would be too deep, leaves the run spent.
	loop := program(body(set(3, -1), add(0, 3), jump(1, 0), throw(3)))
	checkGuarded(t, "the last fuel", loop, 0, 97, [3][2]int{{back, -1}, {back, 0}, {panics, -1}})
	checkGuarded(t, "fuel for one Step of the guard", loop, 0, 98, [3][2]int{{stops, 0}, {back, 0}, {stops, 0}})
	checkGuarded(t, "fuel for none", loop, 0, 99, [3][2]int{{stops, 0}, {stops, 0}, {stops, 0}})
	checkGuarded(t, "the deepest guard", self, 0, impl.MaxDepth-1, [3][2]int{{back, -7}, {back, -6}, {panics, -1}})
	checkGuarded(t, "a guard that is too deep", self, 0, impl.MaxDepth, [3][2]int{{stops, 0}, {stops, 0}, {stops, 0}})
}

// pointsByRule tells as chapter 5 says it, by the model, where a guard keeps a run from a panic.
func pointsByRule(p impl.Program, f int, arg int, fuel int) []int {
	var points []int
	for g := range p.Functions {
		if guarded, ok := guardByRule(p, g, allGuards()[0]); ok {
			if o, _ := modelOutcome(guarded, f, arg, fuel); o.Kind != panics {
				points = append(points, g)
			}
		}
	}
	return points
}

func TestPromise5GuardPointsAreThoseOfTheModel(t *testing.T) {
	var some, part, none int
	for i, p := range append(randomPrograms(59, 1500), recoveringPrograms(59, 1500)...) {
		for f := range p.Functions {
			for _, run := range [][2]int{{edgeNumbers[i%len(edgeNumbers)], impl.MaxFuel}, {1, 12}} {
				got, ok := impl.GuardPoints(p, f, run[0], run[1])
				if !ok || !slices.Equal(got, pointsByRule(p, f, run[0], run[1])) {
					t.Fatalf("%d of %s with %v: %v %t", f, textByRule(p), run, got, ok)
				}
				if _, can := impl.TellingGuard(p, f); can && !slices.Contains(got, f) {
					t.Fatalf("no point at %d of %s with %v: %v", f, textByRule(p), run, got)
				}
				switch len(got) {
				case 0:
					none++
				case 1:
					some++
				default:
					part++
				}
			}
		}
	}
	if some < 1000 || part < 1000 || none < 1000 {
		t.Error("the runs are too much alike", some, part, none)
	}
}

func TestPromise5GuardPoints(t *testing.T) {
	full := body(call(2, 0), say(0), say(0), say(0), say(0), say(0), say(0), say(0))
	thrower := body(throw(0))
	for name, given := range map[string]struct {
		p    impl.Program
		want []int
	}{
		"all that the panic unwinds":      {program(body(call(1, 0)), body(call(3, 0)), thrower, thrower), []int{0, 1, 3}},
		"where there is a place":          {program(body(call(1, 0)), full, thrower), []int{0, 2}},
		"behind which another one panics": {program(body(call(1, 0), throw(0)), thrower), []int{0}},
		"of a deferred call":              {program(body(later(1, 0)), thrower, nil), []int{0, 1}},
		"that is run by what panics":      {program(body(later(1, 0), throw(0)), thrower), []int{0}},
		"all, as the run returns":         {program(nil, thrower), []int{0, 1}},
		"all, as it exits":                {program(body(exit()), thrower, full), []int{0, 1}},
		"all, as it is spent":             {program(body(jump(0, 0)), thrower), []int{0, 1}},
		"all, as it is recovered":         {program(body(later(1, 0), throw(0)), body(save(0))), []int{0, 1}},
		"none, as none has a place":       {program(append(body(throw(0)), full[1:]...)), nil},
	} {
		if points, ok := impl.GuardPoints(given.p, 0, 7, impl.MaxFuel); !ok || !slices.Equal(points, given.want) {
			t.Error(name, points, ok)
		}
	}
	// The fuel is that of the run with the guard: where it is spent with it, it does not panic.
	p := program(body(call(1, 0), throw(0)), thrower, thrower)
	for fuel, want := range [][]int{{0, 1, 2}, {0, 1, 2}, {0, 1}, {0, 1}, {0, 1}, {0, 1}, {0, 1}, {0}} {
		if points, ok := impl.GuardPoints(p, 0, 7, fuel); !ok || !slices.Equal(points, want) {
			t.Error("with the fuel", fuel, points, ok)
		}
	}
	// A guard that tells changes what the run does: the result that it gives may avoid a panic.
	q := program(body(call(1, 0), jump(3, 2), throw(0), give(2)), thrower)
	for arg, want := range map[int][]int{-7: {0}, 0: {0}, 7: {0, 1}} {
		if points, ok := impl.GuardPoints(q, 0, arg, impl.MaxFuel); !ok || !slices.Equal(points, want) {
			t.Error("with the argument", arg, points, ok)
		}
	}
}

func TestPromise5WithoutRecoversNothingIsRecovered(t *testing.T) {
	changed := 0
	for _, p := range append(randomPrograms(60, 1500), recoveringPrograms(60, 500)...) {
		want := copied(p)
		for f, b := range want.Functions {
			for _, at := range recoverPlaces(b) {
				changed++
				want.Functions[f][at] = set(b[at].A, 0)
			}
		}
		got, ok := impl.WithoutRecovers(p)
		if !ok || !sameProgram(got, want) || !impl.IsProgram(got) {
			t.Fatalf("%s: %s %t", textByRule(p), textByRule(got), ok)
		}
		if again, ok := impl.WithoutRecovers(got); !ok || !sameProgram(again, got) {
			t.Fatalf("again %s: %s %t", textByRule(got), textByRule(again), ok)
		}
		for f := range got.Functions {
			o, _ := impl.RunProgram(got, f, 1, impl.MaxFuel)
			if all := checkRescue(t, got, f, 1, impl.MaxFuel); !sameRescue(all, rescue{}) || countKind(o.Trace, impl.EventRecover) != 0 {
				t.Fatalf("recovered by %d of %s: %v", f, textByRule(got), all)
			}
			guards, _ := impl.GuardsOf(got, f)
			idle, _ := impl.IdleRecovers(got, f)
			if len(guards)+len(idle) != 0 {
				t.Fatalf("recovers in %s: %v %v", textByRule(got), guards, idle)
			}
		}
	}
	if changed < 1000 {
		t.Error("too few recovers", changed)
	}
	p := program(body(later(1, 0), throw(0)), body(save(0), save(3), outer(0), save(1)), nil)
	if got, ok := impl.WithoutRecovers(p); !ok || textByRule(got) != "5.1.0 6.0.0/1.0.0 1.3.0 9.0.0 1.1.0/" {
		t.Error("without recovers", textByRule(got), ok)
	}
}

// rescueAnswers asks all functions of chapter 5 that tell of one run, and returns whether they do
// not fail and how much they tell.
func rescueAnswers(p impl.Program, f int, arg int, fuel int) ([5]bool, [5]int) {
	saved, one := impl.SavedCalls(p, f, arg, fuel)
	ends, two := impl.SavedEnds(p, f, arg, fuel)
	gaps, three := impl.RecoverGaps(p, f, arg, fuel)
	points, four := impl.GuardPoints(p, f, arg, fuel)
	rethrows, five := impl.Rethrows(p, f, arg, fuel)
	return [5]bool{one, two, three, four, five}, [5]int{len(saved), ends[0] + ends[1] + ends[2] + ends[3], len(gaps), len(points), rethrows}
}

// functionAnswers asks all functions of chapter 5 that need a function alone, or a Program.
func functionAnswers(p impl.Program, f int) ([6]bool, [6]int) {
	guards, one := impl.GuardsOf(p, f)
	idle, two := impl.IdleRecovers(p, f)
	telling, three := impl.TellingGuard(p, f)
	swallowing, four := impl.SwallowingGuard(p, f)
	throwing, five := impl.ThrowingGuard(p, f)
	without, six := impl.WithoutRecovers(p)
	return [6]bool{one, two, three, four, five, six},
		[6]int{len(guards), len(idle), len(telling.Functions), len(swallowing.Functions), len(throwing.Functions), len(without.Functions)}
}

func TestPromise5RunsAndFunctionsRefuseOthers(t *testing.T) {
	p := program(body(later(1, 0), throw(0)), body(save(0), throw(0)))
	for _, f := range []int{math.MinInt, -1 << 32, -1, 0, 1, 2, 3, 6, 1 << 32, math.MaxInt} {
		function := f == 0 || f == 1
		for _, arg := range []int{math.MinInt, -32769, -32768, 0, 32767, 32768, 65536, math.MaxInt} {
			for _, fuel := range []int{math.MinInt, -1, 0, 4, 200, 201, 1 << 32, math.MaxInt} {
				valid := function && -32768 <= arg && arg <= 32767 && 0 <= fuel && fuel <= 200
				var want [5]int
				switch {
				case valid && fuel == 0:
					want = [5]int{0, 0, 0, 2, 0}
				case valid && f == 0:
					want = [5]int{1, 1, 1, 2, 1}
				case valid:
					want = [5]int{0, 0, 0, 1, 0}
				}
				ok, size := rescueAnswers(p, f, arg, fuel)
				if ok != [5]bool{valid, valid, valid, valid, valid} || size != want {
					t.Error("of a run", f, arg, fuel, ok, size)
				}
			}
		}
		want := [6]int{5: 2}
		switch f {
		case 0:
			want = [6]int{1, 0, 3, 3, 3, 2}
		case 1:
			want = [6]int{0, 1, 3, 3, 3, 2}
		}
		ok, size := functionAnswers(p, f)
		if ok != [6]bool{function, function, function, function, function, true} || size != want {
			t.Error("of a function", f, ok, size)
		}
	}
}

func TestPromise13WhatIsNoProgramRecoversNothing(t *testing.T) {
	for i, p := range invalidPrograms() {
		for _, f := range []int{math.MinInt, -1, 0, 1, 5, 6, math.MaxInt} {
			if ok, size := rescueAnswers(p, f, 0, 9); ok != [5]bool{} || size != [5]int{} {
				t.Error("a run of no program", i, f, ok, size)
			}
			if ok, size := functionAnswers(p, f); ok != [6]bool{} || size != [6]int{} {
				t.Error("of no program", i, f, ok, size)
			}
		}
	}
}

func TestPromise13RecoversModifyNothing(t *testing.T) {
	for _, p := range append(recoveringPrograms(61, 300), invalidPrograms()[:22]...) {
		checkUnmodified(t, p, func(given impl.Program) {
			for f := -1; f <= len(p.Functions); f++ {
				one, first := rescueAnswers(given, f, 1, 60)
				two, second := rescueAnswers(given, f, 1, 60)
				three, third := functionAnswers(given, f)
				four, fourth := functionAnswers(given, f)
				if one != two || first != second || three != four || third != fourth {
					t.Fatalf("other answers of %s", textByRule(p))
				}
			}
		})
	}
}

func TestPromise13GuardedProgramsAreApart(t *testing.T) {
	p := program(body(say(0), jump(1, 0), later(1, 2)), body(save(0)), body(exit(), call(0, 1)))
	builds := []func() (impl.Program, bool){func() (impl.Program, bool) { return impl.WithoutRecovers(p) }}
	for _, g := range allGuards() {
		for f := range p.Functions {
			builds = append(builds, func() (impl.Program, bool) { return g.add(p, f) })
		}
	}
	checkProgramsApart(t, p, builds...)
}

func TestPromise13ListsOfRecoveriesAreApart(t *testing.T) {
	p := program(body(later(1, 0), later(2, 0), throw(0)), body(save(0)), body(save(0), call(3, 0)), body(save(0), throw(0)))
	first, second := tellRescue(t, p, 0, 4, 99), tellRescue(t, p, 0, 4, 99)
	guards, _ := impl.GuardsOf(p, 0)
	idle, _ := impl.IdleRecovers(p, 0)
	points, _ := impl.GuardPoints(p, 0, 4, 99)
	for _, list := range [][]int{first.saved, first.gaps, guards, points} {
		if len(list) == 0 {
			t.Error("nothing to share")
		}
		for i := range list {
			list[i] = -9
		}
	}
	clear(idle)
	if third, want := tellRescue(t, p, 0, 4, 99), modelRescue(p, 0, 4, 99); !sameRescue(second, want) || !sameRescue(third, want) {
		t.Error("lists share memory", second, third)
	}
	guards, _ = impl.GuardsOf(p, 0)
	idle, _ = impl.IdleRecovers(p, 0)
	points, _ = impl.GuardPoints(p, 0, 4, 99)
	if !slices.Equal(guards, guardsByRule(p, 0)) || !slices.Equal(idle, pairs{{3, 0}}) || !slices.Equal(points, pointsByRule(p, 0, 4, 99)) {
		t.Error("lists share memory", guards, idle, points)
	}
}
