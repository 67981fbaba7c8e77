package tests

import (
	"math"
	"math/rand/v2"
	"slices"
	"testing"

	"loop.example/g01183/impl"
)

type fates = [][3]int

const open, recovered, replaced, arrived, lost = impl.FateOpen, impl.FateRecovered, impl.FateReplaced, impl.FateArrived, impl.FateLost

// thrown is what the functions of chapter 4 tell of a run, unwound by the numbers of panics. The
// chain is empty if the run does not end by a panic.
type thrown struct {
	fates     fates
	unwound   [][]int
	recovered pairs
	replacers []int
	chain     []int
	depths    []int
	open      int
}

// tellThrown asks all functions of chapter 4 of a run that is valid.
func tellThrown(t *testing.T, p impl.Program, f int, arg int, fuel int) thrown {
	t.Helper()
	var all thrown
	var ok [5]bool
	var ends bool
	all.fates, ok[0] = impl.PanicFates(p, f, arg, fuel)
	all.recovered, ok[1] = impl.RecoveredBy(p, f, arg, fuel)
	all.replacers, ok[2] = impl.ReplacedBy(p, f, arg, fuel)
	all.depths, ok[3] = impl.PanicDepths(p, f, arg, fuel)
	all.open, ok[4] = impl.OpenPanics(p, f, arg, fuel)
	all.chain, ends = impl.PanicChain(p, f, arg, fuel)
	if ok != [5]bool{true, true, true, true, true} || ends != (len(all.chain) > 0) {
		t.Fatalf("%d of %s with %d and %d: %v %t", f, textByRule(p), arg, fuel, ok, ends)
	}
	for k := range all.fates {
		unwound, ok := impl.UnwoundBy(p, f, arg, fuel, k)
		if !ok {
			t.Fatalf("panic %d of %d of %s with %d and %d", k, f, textByRule(p), arg, fuel)
		}
		all.unwound = append(all.unwound, unwound)
	}
	return all
}

// modelThrown tells of a run what the model has written down.
func modelThrown(p impl.Program, f int, arg int, fuel int) thrown {
	m := modelOf(p, f, arg, fuel)
	all := thrown{recovered: m.saved}
	for _, k := range m.panics {
		all.fates = append(all.fates, [3]int{k.function, k.value, k.fate})
		all.unwound = append(all.unwound, k.unwound)
		all.replacers = append(all.replacers, k.replacer)
		all.depths = append(all.depths, k.depth)
		switch k.fate {
		case arrived:
			all.chain = k.chain
		case open:
			all.open++
		}
	}
	return all
}

func sameThrown(a thrown, b thrown) bool {
	return slices.Equal(a.fates, b.fates) && slices.EqualFunc(a.unwound, b.unwound, slices.Equal[[]int]) && slices.Equal(a.recovered, b.recovered) &&
		slices.Equal(a.replacers, b.replacers) && slices.Equal(a.chain, b.chain) && slices.Equal(a.depths, b.depths) && a.open == b.open
}

// checkThrown compares what is told of the panics of a run with the model, and with what chapter 4
// guarantees.
func checkThrown(t *testing.T, p impl.Program, f int, arg int, fuel int) thrown {
	t.Helper()
	got, want := tellThrown(t, p, f, arg, fuel), modelThrown(p, f, arg, fuel)
	if !sameThrown(got, want) {
		t.Fatalf("%d of %s with %d and %d: %v, not %v", f, textByRule(p), arg, fuel, got, want)
	}
	o, _ := impl.RunProgram(p, f, arg, fuel)
	var counts [5]int
	for k, fate := range got.fates {
		counts[fate[2]]++
		saved := slices.ContainsFunc(got.recovered, func(pair [2]int) bool { return pair[0] == k })
		if saved != (fate[2] == recovered) || (got.replacers[k] > k) != (fate[2] == replaced) || fate[2] != replaced && got.replacers[k] != -1 {
			t.Fatalf("panic %d of %d of %s with %d and %d: %v", k, f, textByRule(p), arg, fuel, got)
		}
		if fate[2] == arrived && (fate[1] != o.Value || got.chain[len(got.chain)-1] != o.Value) {
			t.Fatalf("what arrives in %d of %s with %d and %d: %v", f, textByRule(p), arg, fuel, got)
		}
	}
	if (counts[arrived] == 1) != (o.Kind == panics) || counts[arrived] > 1 || counts[open] != got.open || counts[open] > 0 && o.Kind != stops {
		t.Fatalf("fates of %d of %s with %d and %d: %v", f, textByRule(p), arg, fuel, got)
	}
	if len(got.fates) != countKind(o.Trace, impl.EventPanic) || len(got.recovered) != countKind(o.Trace, impl.EventRecover) || counts[recovered] != len(got.recovered) {
		t.Fatalf("panics of %d of %s with %d and %d: %v", f, textByRule(p), arg, fuel, got)
	}
	for _, k := range []int{-1, len(got.fates)} {
		if unwound, ok := impl.UnwoundBy(p, f, arg, fuel, k); ok || len(unwound) != 0 {
			t.Fatalf("no panic %d of %d of %s with %d and %d: %v", k, f, textByRule(p), arg, fuel, unwound)
		}
	}
	return got
}

// checkThrownWithLess checks what is told of the panics of a run with each fuel. With less, the
// panics that are made are the first ones of the longer run, and those that have a fate keep it.
func checkThrownWithLess(t *testing.T, p impl.Program, f int, arg int) {
	t.Helper()
	full := checkThrown(t, p, f, arg, impl.MaxFuel)
	for fuel := range impl.MaxFuel {
		short := checkThrown(t, p, f, arg, fuel)
		if len(short.fates) > len(full.fates) || !slices.Equal(short.depths, full.depths[:len(short.fates)]) {
			t.Fatalf("%d of %s with %d and %d: %v", f, textByRule(p), arg, fuel, short)
		}
		for k, fate := range short.fates {
			whole := full.fates[k]
			if fate[2] == open {
				whole[2] = open
			}
			if far := len(short.unwound[k]); fate != whole || !slices.Equal(short.unwound[k], full.unwound[k][:far]) || fate[2] != open && far != len(full.unwound[k]) {
				t.Fatalf("panic %d of %d of %s with %d and %d: %v", k, f, textByRule(p), arg, fuel, short)
			}
		}
	}
}

// checkPanics compares a run of the function 0 with all that is to be told of its panics.
func checkPanics(t *testing.T, name string, p impl.Program, arg int, fuel int, want thrown) {
	t.Helper()
	if got := checkThrown(t, p, 0, arg, fuel); !sameThrown(got, want) {
		t.Errorf("%s: %v, not %v", name, got, want)
	}
}

// panickingPrograms returns valid Programs, always the same ones for the same seed: each of their
// bodies defers greater functions ahead of any Steps, and many of them panic behind it.
func panickingPrograms(seed uint64, count int) []impl.Program {
	r := rand.New(rand.NewPCG(seed, 4))
	all := make([]impl.Program, count)
	for i := range all {
		functions := 3 + r.IntN(4)
		for f := range functions {
			b := body()
			for range r.IntN(4) {
				if f+1 < functions {
					b = append(b, later(f+1+r.IntN(functions-f-1), r.IntN(2)))
				}
			}
			for range r.IntN(3) {
				b = append(b, randomStep(r, functions))
			}
			if last := []impl.Step{throw(0), throw(0), throw(1), exit(), give(0), save(1)}; len(b) < impl.MaxBody {
				b = append(b, last[r.IntN(len(last))])
			}
			all[i].Functions = append(all[i].Functions, b)
		}
	}
	return all
}

func TestPromise4WhatIsToldIsWhatTheModelWritesDown(t *testing.T) {
	var seen [5]int
	var chained, deepest, apart int
	for _, p := range append(randomPrograms(41, 3000), panickingPrograms(41, 3000)...) {
		for f := range p.Functions {
			for _, run := range [][2]int{{-32768, impl.MaxFuel}, {1, impl.MaxFuel}, {5, 40}, {1, 9}} {
				all := checkThrown(t, p, f, run[0], run[1])
				for k, fate := range all.fates {
					seen[fate[2]]++
					deepest = max(deepest, all.depths[k])
				}
				if len(all.chain) > 1 {
					chained++
				}
				if slices.ContainsFunc(all.replacers, func(k int) bool { return k >= 0 && countNumber(all.replacers, k) > 1 }) {
					apart++
				}
			}
		}
	}
	if slices.Min(seen[:]) < 1000 || chained < 1000 || deepest != impl.MaxDepth || apart < 1000 {
		t.Error("the runs are too much alike", seen, chained, deepest, apart)
	}
}

func countNumber(list []int, n int) int {
	count := 0
	for _, k := range list {
		if k == n {
			count++
		}
	}
	return count
}

func TestPromise4EachSmallProgramPanicsAsTheModel(t *testing.T) {
	bodies := bodiesOf([]impl.Step{throw(0), save(1), exit(), later(3, 0), call(3, 1), later(4, 0)}, 2)
	for _, first := range []impl.Step{throw(0), exit(), give(0), call(3, 0)} {
		for _, last := range [][]impl.Step{{throw(0)}, {exit()}, {save(2)}, {later(4, 0), throw(0)}, {later(5, 0), throw(0)}} {
			for _, one := range bodies {
				for _, two := range bodies {
					p := program(body(set(0, 1), later(1, 0), set(0, 2), later(2, 0), set(0, 3), first), one, two, last, body(save(0)), body(set(1, 4), throw(1)))
					checkThrown(t, p, 0, 0, impl.MaxFuel)
				}
			}
		}
	}
}

func TestPromise4EachFuel(t *testing.T) {
	told := 0
	for i, p := range append(randomPrograms(42, 200), panickingPrograms(42, 200)...) {
		arg := edgeNumbers[i%len(edgeNumbers)]
		if all := checkThrown(t, p, 0, arg, impl.MaxFuel); len(all.fates) > 0 {
			told++
			checkThrownWithLess(t, p, 0, arg)
		}
	}
	if told < 100 {
		t.Error("too few runs have panics", told)
	}
}

func TestPromise4APanicThatArrives(t *testing.T) {
	checkPanics(t, "in the first call", program(body(throw(0), throw(0))), 6, impl.MaxFuel,
		thrown{fates: fates{{0, 6, arrived}}, unwound: [][]int{{0}}, replacers: []int{-1}, chain: []int{6}, depths: []int{1}})
	checkPanics(t, "of a call of a call", program(body(call(2, 0), throw(0)), body(throw(0)), body(call(1, 0))), -6, impl.MaxFuel,
		thrown{fates: fates{{1, -6, arrived}}, unwound: [][]int{{1, 2, 0}}, replacers: []int{-1}, chain: []int{-6}, depths: []int{3}})
	// That of a deferred call of one that has returned can be recovered by those deferred before alone.
	checkPanics(t, "of a deferred call that is not the first one", program(body(later(1, 0), later(2, 0), give(0)), body(save(0)), body(call(3, 0)), body(throw(1))), 6, impl.MaxFuel,
		thrown{fates: fates{{3, 0, recovered}}, unwound: [][]int{{3, 2}}, recovered: pairs{{0, 1}}, replacers: []int{-1}, depths: []int{3}})
	checkPanics(t, "of the first deferred call", program(body(later(1, 0), later(2, 0), give(0)), body(throw(0)), body(save(0))), 6, impl.MaxFuel,
		thrown{fates: fates{{1, 6, arrived}}, unwound: [][]int{{1, 0}}, replacers: []int{-1}, chain: []int{6}, depths: []int{2}})
	// Deferred calls that return let it go on, those of a function without Steps too.
	checkPanics(t, "behind deferred calls", program(body(later(1, 0), call(2, 0)), nil, body(later(1, 0), later(3, 0), throw(0)), body(say(0))), 0, impl.MaxFuel,
		thrown{fates: fates{{2, 0, arrived}}, unwound: [][]int{{2, 0}}, replacers: []int{-1}, chain: []int{0}, depths: []int{2}})
	// All calls that can be open at the same time are unwound.
	p := program(body(set(3, -1), add(0, 3), jump(4, 0), throw(3), call(0, 0)))
	checkPanics(t, "of the deepest call", p, impl.MaxDepth, impl.MaxFuel,
		thrown{fates: fates{{0, -1, arrived}}, unwound: [][]int{slices.Repeat([]int{0}, impl.MaxDepth)}, replacers: []int{-1}, chain: []int{-1}, depths: []int{impl.MaxDepth}})
}

func TestPromise4PanicsInDeferredCallsOfACallThatPanics(t *testing.T) {
	nine, saver := body(set(2, 9), throw(2)), body(save(0))
	checkPanics(t, "replaced", program(body(later(1, 0), throw(0)), nine), 7, impl.MaxFuel,
		thrown{fates: fates{{0, 7, replaced}, {1, 9, arrived}}, unwound: [][]int{nil, {1, 0}}, replacers: []int{1, -1}, chain: []int{7, 9}, depths: []int{1, 2}})
	// A panic is told by its number: another one may have the same value, and the same function.
	checkPanics(t, "replaced by the same value", program(body(later(1, 0), throw(0)), body(throw(0))), 7, impl.MaxFuel,
		thrown{fates: fates{{0, 7, replaced}, {1, 7, arrived}}, unwound: [][]int{nil, {1, 0}}, replacers: []int{1, -1}, chain: []int{7, 7}, depths: []int{1, 2}})
	checkPanics(t, "replaced by one of the same function", program(body(later(1, 0), call(1, 0)), body(throw(0))), 7, impl.MaxFuel,
		thrown{fates: fates{{1, 7, replaced}, {1, 7, arrived}}, unwound: [][]int{{1}, {1, 0}}, replacers: []int{1, -1}, chain: []int{7, 7}, depths: []int{2, 2}})
	// Each deferred call replaces the panic of the one before.
	p := program(body(set(2, 3), later(1, 2), set(2, 2), later(1, 2), set(2, 1), later(1, 2), throw(0)), body(throw(0)))
	checkPanics(t, "one by one", p, 0, impl.MaxFuel,
		thrown{fates: fates{{0, 0, replaced}, {1, 1, replaced}, {1, 2, replaced}, {1, 3, arrived}}, unwound: [][]int{nil, {1}, {1}, {1, 0}},
			replacers: []int{1, 2, 3, -1}, chain: []int{0, 1, 2, 3}, depths: []int{1, 2, 2, 2}})
	// A panic that replaces one is recovered, and that which it has replaced is not.
	checkPanics(t, "recovered", program(body(later(2, 0), later(1, 0), throw(0)), nine, saver), 7, impl.MaxFuel,
		thrown{fates: fates{{0, 7, replaced}, {1, 9, recovered}}, unwound: [][]int{nil, {1}}, recovered: pairs{{1, 2}}, replacers: []int{1, -1}, depths: []int{1, 2}})
	// One that is recovered inside the deferred call leaves the other one as it is.
	checkPanics(t, "recovered inside", program(body(later(3, 0), throw(0)), nine, saver, body(later(2, 0), call(1, 0))), 7, impl.MaxFuel,
		thrown{fates: fates{{0, 7, arrived}, {1, 9, recovered}}, unwound: [][]int{{0}, {1}}, recovered: pairs{{1, 2}}, replacers: []int{-1, -1}, chain: []int{7}, depths: []int{1, 3}})
	// The panic of a call that a deferred one makes replaces it too.
	checkPanics(t, "of a call of a deferred one", program(body(later(2, 0), throw(0)), nine, body(call(1, 0))), 7, impl.MaxFuel,
		thrown{fates: fates{{0, 7, replaced}, {1, 9, arrived}}, unwound: [][]int{nil, {1, 2, 0}}, replacers: []int{1, -1}, chain: []int{7, 9}, depths: []int{1, 3}})
	// A panic that has gone through a call is replaced in the next one, and unwinds it no more.
	checkPanics(t, "replaced outside", program(body(later(1, 0), call(2, 0)), nine, body(throw(0))), 7, impl.MaxFuel,
		thrown{fates: fates{{2, 7, replaced}, {1, 9, arrived}}, unwound: [][]int{{2}, {1, 0}}, replacers: []int{1, -1}, chain: []int{7, 9}, depths: []int{2, 2}})
}

func TestPromise4TwoPanicsThatOnePanicReplacesInDifferentCalls(t *testing.T) {
	p := program(body(later(1, 0), throw(0)), body(later(2, 0), set(2, 8), throw(2)), body(set(2, 9), throw(2)))
	checkPanics(t, "two", p, 7, impl.MaxFuel,
		thrown{fates: fates{{0, 7, replaced}, {1, 8, replaced}, {2, 9, arrived}}, unwound: [][]int{nil, nil, {2, 1, 0}}, replacers: []int{2, 2, -1}, chain: []int{7, 9}, depths: []int{1, 2, 3}})
	// Three of them; the panic that it replaces first and that of the call between go no further.
	p = program(body(later(1, 0), throw(0)), body(later(2, 0), set(2, 8), throw(2)), body(later(3, 0), set(2, 9), throw(2)), body(set(2, 1), throw(2)))
	checkPanics(t, "three", p, 7, impl.MaxFuel,
		thrown{fates: fates{{0, 7, replaced}, {1, 8, replaced}, {2, 9, replaced}, {3, 1, arrived}}, unwound: [][]int{nil, nil, nil, {3, 2, 1, 0}},
			replacers: []int{3, 3, 3, -1}, chain: []int{7, 1}, depths: []int{1, 2, 3, 4}})
	// What has replaced others itself goes on with them, and what is replaced behind it as well.
	p = program(body(later(3, 0), later(1, 0), later(4, 0), throw(0)), body(later(2, 0), set(2, 8), throw(2)), body(set(2, 9), throw(2)),
		body(set(2, 5), throw(2)), body(set(2, 4), throw(2)))
	checkPanics(t, "among others", p, 7, impl.MaxFuel,
		thrown{fates: fates{{0, 7, replaced}, {4, 4, replaced}, {1, 8, replaced}, {2, 9, replaced}, {3, 5, arrived}}, unwound: [][]int{nil, {4}, nil, {2, 1}, {3, 0}},
			replacers: []int{1, 3, 3, 4, -1}, chain: []int{7, 4, 9, 5}, depths: []int{1, 2, 2, 3, 2}})
	// If the one outside is recovered, that inside alone is replaced, and goes on.
	p = program(body(later(1, 0), throw(0)), body(save(1), later(2, 0), set(2, 8), throw(2)), body(set(2, 9), throw(2)))
	checkPanics(t, "recovered outside", p, 7, impl.MaxFuel,
		thrown{fates: fates{{0, 7, recovered}, {1, 8, replaced}, {2, 9, arrived}}, unwound: [][]int{nil, nil, {2, 1, 0}}, recovered: pairs{{0, 1}},
			replacers: []int{-1, 2, -1}, chain: []int{8, 9}, depths: []int{1, 2, 3}})
	for arg := range 3 {
		checkThrownWithLess(t, p, 0, arg)
	}
}

func TestPromise4PanicsThatADeferredExitMakesLost(t *testing.T) {
	leaver := body(exit())
	alone := thrown{fates: fates{{0, 7, lost}}, unwound: [][]int{nil}, replacers: []int{-1}, depths: []int{1}}
	checkPanics(t, "by a deferred call", program(body(later(1, 0), throw(0)), leaver), 7, impl.MaxFuel, alone)
	checkPanics(t, "by a call of a deferred one", program(body(later(2, 0), throw(0)), leaver, body(call(1, 0))), 7, impl.MaxFuel, alone)
	checkPanics(t, "by a deferred call of a deferred one", program(body(later(2, 0), throw(0)), leaver, body(later(1, 0))), 7, impl.MaxFuel, alone)
	// It cannot be recovered behind the exit.
	checkPanics(t, "ahead of what recovers", program(body(later(2, 0), later(1, 0), throw(0)), leaver, body(save(0))), 7, impl.MaxFuel, alone)
	checkPanics(t, "of a call", program(body(later(1, 0), call(2, 0)), leaver, body(throw(0))), 7, impl.MaxFuel,
		thrown{fates: fates{{2, 7, lost}}, unwound: [][]int{{2}}, replacers: []int{-1}, depths: []int{2}})
	// An exit that loses a panic inside goes on, and loses that outside.
	p := program(body(later(1, 0), throw(0)), body(later(2, 0), set(2, 8), throw(2)), leaver)
	checkPanics(t, "two", p, 7, impl.MaxFuel,
		thrown{fates: fates{{0, 7, lost}, {1, 8, lost}}, unwound: [][]int{nil, nil}, replacers: []int{-1, -1}, depths: []int{1, 2}})
	checkThrownWithLess(t, p, 0, 7)
	// A panic that is replaced is not lost, but that which has replaced it is.
	p = program(body(later(1, 0), later(2, 0), throw(0)), leaver, body(set(2, 9), throw(2)))
	checkPanics(t, "what has replaced", p, 7, impl.MaxFuel,
		thrown{fates: fates{{0, 7, replaced}, {2, 9, lost}}, unwound: [][]int{nil, {2}}, replacers: []int{1, -1}, depths: []int{1, 2}})
	// One that is recovered is not lost by an exit behind it.
	checkPanics(t, "recovered", program(body(later(1, 0), throw(0)), body(save(0), exit())), 7, impl.MaxFuel,
		thrown{fates: fates{{0, 7, recovered}}, unwound: [][]int{nil}, recovered: pairs{{0, 1}}, replacers: []int{-1}, depths: []int{1}})
}

func TestPromise4PanicsThatAreRecoveredAndMadeAgain(t *testing.T) {
	again := body(save(0), throw(0))
	checkPanics(t, "once", program(body(later(1, 0), throw(0)), again), 7, impl.MaxFuel,
		thrown{fates: fates{{0, 7, recovered}, {1, 7, arrived}}, unwound: [][]int{nil, {1, 0}}, recovered: pairs{{0, 1}}, replacers: []int{-1, -1}, chain: []int{7}, depths: []int{1, 2}})
	p := program(body(later(1, 0), later(1, 0), later(1, 0), throw(0)), again)
	checkPanics(t, "in turn", p, 7, impl.MaxFuel,
		thrown{fates: fates{{0, 7, recovered}, {1, 7, recovered}, {1, 7, recovered}, {1, 7, arrived}}, unwound: [][]int{nil, {1}, {1}, {1, 0}},
			recovered: pairs{{0, 1}, {1, 1}, {2, 1}}, replacers: []int{-1, -1, -1, -1}, chain: []int{7}, depths: []int{1, 2, 2, 2}})
	checkThrownWithLess(t, p, 0, 7)
	// In each of the calls that it goes through.
	p = program(body(later(2, 0), later(3, 0), call(1, 0)), body(later(3, 0), throw(0)), body(save(0)), again)
	checkPanics(t, "on the way", p, 7, impl.MaxFuel,
		thrown{fates: fates{{1, 7, recovered}, {3, 7, recovered}, {3, 7, recovered}}, unwound: [][]int{nil, {3, 1}, {3}},
			recovered: pairs{{0, 3}, {1, 3}, {2, 2}}, replacers: []int{-1, -1, -1}, depths: []int{2, 3, 2}})
	// Made again, it is recovered by a deferred call of the one that makes it.
	checkPanics(t, "inside", program(body(later(1, 0), throw(0)), body(later(2, 0), save(0), throw(0)), body(save(0))), 7, impl.MaxFuel,
		thrown{fates: fates{{0, 7, recovered}, {1, 7, recovered}}, unwound: [][]int{nil, nil}, recovered: pairs{{0, 1}, {1, 2}}, replacers: []int{-1, -1}, depths: []int{1, 2}})
	// A StepRecover that does not count recovers none.
	checkPanics(t, "twice", program(body(later(1, 0), throw(0)), body(save(0), save(2))), 7, impl.MaxFuel,
		thrown{fates: fates{{0, 7, recovered}}, unwound: [][]int{nil}, recovered: pairs{{0, 1}}, replacers: []int{-1}, depths: []int{1}})
}

func TestPromise4ExitsOverPanics(t *testing.T) {
	saver, thrower, leaver := body(save(0)), body(throw(0)), body(exit())
	// A panic over an exit is recovered, and the exit is taken up again.
	taken := thrown{fates: fates{{2, 6, recovered}}, unwound: [][]int{{2}}, recovered: pairs{{0, 1}}, replacers: []int{-1}, depths: []int{2}}
	checkPanics(t, "taken up again", program(body(later(1, 0), later(2, 0), exit()), saver, thrower), 6, impl.MaxFuel, taken)
	checkPanics(t, "of a deferred call", program(body(later(1, 0), later(2, 0), later(3, 0)), saver, thrower, leaver), 6, impl.MaxFuel, taken)
	// Where it is not, the panic arrives.
	checkPanics(t, "not taken up", program(body(later(2, 0), exit()), saver, thrower), 6, impl.MaxFuel,
		thrown{fates: fates{{2, 6, arrived}}, unwound: [][]int{{2, 0}}, replacers: []int{-1}, chain: []int{6}, depths: []int{2}})
	// An exit that is taken up again in a deferred call loses the panic outside.
	p := program(body(later(3, 0), throw(0)), saver, body(set(2, 9), throw(2)), body(later(1, 0), later(2, 0), exit()))
	checkPanics(t, "over a panic", p, 6, impl.MaxFuel,
		thrown{fates: fates{{0, 6, lost}, {2, 9, recovered}}, unwound: [][]int{nil, {2}}, recovered: pairs{{1, 1}}, replacers: []int{-1, -1}, depths: []int{1, 3}})
	checkThrownWithLess(t, p, 0, 6)
	// A panic over an exit over a panic: that of the body is lost, and is not replaced.
	p = program(body(later(1, 0), later(2, 0), throw(0)), body(set(2, 9), throw(2)), leaver)
	checkPanics(t, "under both", p, 6, impl.MaxFuel,
		thrown{fates: fates{{0, 6, lost}, {1, 9, arrived}}, unwound: [][]int{nil, {1, 0}}, replacers: []int{-1, -1}, chain: []int{9}, depths: []int{1, 2}})
	// The exit of a call that has no panic on ends the one outside, where none is on as well.
	checkPanics(t, "of a call", program(body(later(1, 0), call(2, 0), throw(0)), thrower, leaver), 6, impl.MaxFuel,
		thrown{fates: fates{{1, 6, arrived}}, unwound: [][]int{{1, 0}}, replacers: []int{-1}, chain: []int{6}, depths: []int{2}})
}

func TestPromise4RunsThatAreSpentWhileAPanicIsOn(t *testing.T) {
	p := program(body(later(1, 0), call(2, 0)), body(save(0), say(0)), body(later(3, 0), throw(0)), body(say(0), set(2, 9), throw(2)))
	for fuel, want := range []thrown{{}, {}, {}, {},
		{fates: fates{{2, 7, open}}, unwound: [][]int{nil}, replacers: []int{-1}, depths: []int{2}, open: 1},
		{fates: fates{{2, 7, open}}, unwound: [][]int{nil}, replacers: []int{-1}, depths: []int{2}, open: 1},
		{fates: fates{{2, 7, open}}, unwound: [][]int{nil}, replacers: []int{-1}, depths: []int{2}, open: 1},
		{fates: fates{{2, 7, replaced}, {3, 9, open}}, unwound: [][]int{nil, {3, 2}}, replacers: []int{1, -1}, depths: []int{2, 3}, open: 1},
		{fates: fates{{2, 7, replaced}, {3, 9, recovered}}, unwound: [][]int{nil, {3, 2}}, recovered: pairs{{1, 1}}, replacers: []int{1, -1}, depths: []int{2, 3}},
		{fates: fates{{2, 7, replaced}, {3, 9, recovered}}, unwound: [][]int{nil, {3, 2}}, recovered: pairs{{1, 1}}, replacers: []int{1, -1}, depths: []int{2, 3}},
	} {
		checkPanics(t, "spent", p, 7, fuel, want)
	}
	// Two panics in different calls are open: the deferred call that ends by the second has not ended.
	p = program(body(later(1, 0), throw(0)), body(later(2, 0), throw(1)), body(say(0)))
	checkPanics(t, "two", p, 7, 4,
		thrown{fates: fates{{0, 7, open}, {1, 0, open}}, unwound: [][]int{nil, nil}, replacers: []int{-1, -1}, depths: []int{1, 2}, open: 2})
	// A call that would be too deep spends all, and no panic arrives.
	p = program(body(later(0, 0), throw(0)))
	want := thrown{open: impl.MaxDepth}
	for depth := 1; depth <= impl.MaxDepth; depth++ {
		want.fates, want.unwound = append(want.fates, [3]int{0, 7, open}), append(want.unwound, nil)
		want.replacers, want.depths = append(want.replacers, -1), append(want.depths, depth)
	}
	checkPanics(t, "too deep", p, 7, impl.MaxFuel, want)
	// It takes no fuel to unwind calls, nor to run deferred calls that have no Steps.
	p = program(body(later(2, 0), call(1, 0)), body(later(2, 0), throw(0)), nil)
	checkPanics(t, "with the last fuel", p, 7, 4,
		thrown{fates: fates{{1, 7, arrived}}, unwound: [][]int{{1, 0}}, replacers: []int{-1}, chain: []int{7}, depths: []int{2}})
}

func TestPromise4RunsWithoutPanics(t *testing.T) {
	for _, p := range []impl.Program{program(nil), program(body(give(0))), program(body(exit())), program(body(later(1, 0), call(1, 0)), body(save(0))),
		program(body(jump(0, 0))), program(body(jump(2, 0), throw(0))), program(body(say(0)), body(throw(0)))} {
		for _, fuel := range []int{0, 1, impl.MaxFuel} {
			checkPanics(t, "without panics", p, 6, fuel, thrown{})
			args, one := impl.PanickingArgs(p, 0, 6, 6, fuel)
			values, two := impl.PanicValues(p, 0, 6, 6, fuel)
			if !one || !two || len(args)+len(values) != 0 {
				t.Error("without panics", textByRule(p), args, values)
			}
		}
	}
}

// checkRange compares what is told of the runs with a range of arguments with the model.
func checkRange(t *testing.T, p impl.Program, f int, low int, high int, fuel int) ([]int, []int) {
	t.Helper()
	var want, found []int
	for arg := low; arg <= high; arg++ {
		if o, _ := modelOutcome(p, f, arg, fuel); o.Kind == panics {
			want = append(want, arg)
			if !slices.Contains(found, o.Value) {
				found = append(found, o.Value)
			}
		}
	}
	slices.Sort(found)
	args, one := impl.PanickingArgs(p, f, low, high, fuel)
	values, two := impl.PanicValues(p, f, low, high, fuel)
	if !one || !two || !slices.Equal(args, want) || !slices.Equal(values, found) {
		t.Fatalf("%d of %s from %d to %d with %d: %v %v, not %v %v", f, textByRule(p), low, high, fuel, args, values, want, found)
	}
	return args, values
}

// numbers returns the numbers from low to high.
func numbers(low int, high int) []int {
	list := []int{}
	for n := low; n <= high; n++ {
		list = append(list, n)
	}
	return list
}

func TestPromise4RangesAreThoseOfTheModel(t *testing.T) {
	part := 0
	for i, p := range append(randomPrograms(43, 500), panickingPrograms(43, 1500)...) {
		// With a StepJump ahead of all, arguments greater than 0 go another way than others.
		if more, ok := impl.PutStep(p, 0, 0, jump(2+i%4, 0)); ok {
			p = more
		}
		for _, low := range []int{-3, 0, edgeNumbers[i%len(edgeNumbers)] / 2} {
			high := low + i%7
			if args, _ := checkRange(t, p, 0, low, high, impl.MaxFuel-i%190); len(args) > 0 && len(args) <= high-low {
				part++
			}
		}
	}
	if part < 100 {
		t.Error("too few ranges panic in part", part)
	}
}

func TestPromise4RangesOfArguments(t *testing.T) {
	p := program(body(jump(2, 0), throw(0), say(0)))
	if args, values := checkRange(t, p, 0, -50, 50, impl.MaxFuel); !slices.Equal(args, numbers(-50, 0)) || !slices.Equal(values, numbers(-50, 0)) {
		t.Error("of the most arguments", args, values)
	}
	// Each range of one argument, and the most arguments, at both ends of the numbers.
	every := program(body(throw(0)))
	for _, n := range append([]int{-50, 77}, edgeNumbers...) {
		if args, values := checkRange(t, every, 0, n, n, 1); !slices.Equal(args, []int{n}) || !slices.Equal(values, []int{n}) {
			t.Error("of one argument", n, args, values)
		}
	}
	for _, low := range []int{-32768, -100, -50, 0, 32667} {
		if args, values := checkRange(t, every, 0, low, low+impl.MaxRange, 1); len(args) != 101 || !slices.Equal(values, numbers(low, low+100)) {
			t.Error("of the most arguments", low, args, values)
		}
	}
	// Values are told once, in ascending order, whatever the order of the arguments is.
	turned := program(body(set(3, -1), add(1, 3), add(0, 3), jump(1, 0), throw(1)))
	if args, values := checkRange(t, turned, 0, 1, 40, impl.MaxFuel); !slices.Equal(args, numbers(1, 40)) || !slices.Equal(values, numbers(-40, -1)) {
		t.Error("turned round", args, values)
	}
	two := program(body(set(2, 5), jump(4, 0), set(2, 6), throw(2), throw(2)))
	if args, values := checkRange(t, two, 0, -9, 9, impl.MaxFuel); len(args) != 19 || !slices.Equal(values, []int{5, 6}) {
		t.Error("of two values", args, values)
	}
	// Runs that are spent end by no panic: the value -66 takes all the fuel.
	if args, values := checkRange(t, turned, 0, 1, 101, impl.MaxFuel); !slices.Equal(args, numbers(1, 66)) || !slices.Equal(values, numbers(-66, -1)) {
		t.Error("spent", args, values)
	}
	// Nor do those whose panic is recovered or lost.
	for name, guard := range map[string][]impl.Step{"recovered": body(jump(2, 0), give(0), save(2)), "lost": body(jump(2, 0), give(0), exit())} {
		p := program(body(later(1, 0), throw(0)), guard)
		if args, values := checkRange(t, p, 0, -50, 50, impl.MaxFuel); !slices.Equal(args, numbers(-50, 0)) || !slices.Equal(values, numbers(-50, 0)) {
			t.Error(name, args, values)
		}
	}
	// The value is that of the panic that arrives.
	other := program(body(later(1, 0), throw(0)), body(jump(2, 0), give(0), set(2, -60), throw(2)))
	if args, values := checkRange(t, other, 0, -50, 50, impl.MaxFuel); len(args) != 101 || !slices.Equal(values, append([]int{-60}, numbers(-50, 0)...)) {
		t.Error("replaced", args, values)
	}
}

// thrownAnswers asks all functions of chapter 4 that tell of one run, and returns whether they do
// not fail and how much they tell. The first one also needs a panic.
func thrownAnswers(p impl.Program, f int, arg int, fuel int, k int) ([7]bool, [7]int) {
	unwound, one := impl.UnwoundBy(p, f, arg, fuel, k)
	fates, two := impl.PanicFates(p, f, arg, fuel)
	saved, three := impl.RecoveredBy(p, f, arg, fuel)
	replacers, four := impl.ReplacedBy(p, f, arg, fuel)
	chain, five := impl.PanicChain(p, f, arg, fuel)
	depths, six := impl.PanicDepths(p, f, arg, fuel)
	open, seven := impl.OpenPanics(p, f, arg, fuel)
	return [7]bool{one, two, three, four, five, six, seven}, [7]int{len(unwound), len(fates), len(saved), len(replacers), len(chain), len(depths), open}
}

func TestPromise4RunsAndPanicsRefuseOthers(t *testing.T) {
	p := program(body(later(1, 0), throw(0)), body(set(2, 3), throw(2)))
	for _, f := range []int{math.MinInt, -1, 0, 1, 2, 6, 1 << 32, math.MaxInt} {
		for _, arg := range []int{math.MinInt, -32769, -32768, 0, 32767, 32768, 65536, math.MaxInt} {
			for _, fuel := range []int{math.MinInt, -1, 0, 4, 200, 201, 1 << 32, math.MaxInt} {
				for _, k := range []int{math.MinInt, -1 << 32, -2, -1, 0, 1, 2, 3, 1 << 32, math.MaxInt} {
					valid := (f == 0 || f == 1) && -32768 <= arg && arg <= 32767 && 0 <= fuel && fuel <= 200
					ends := valid && fuel > 0
					count := 0
					if ends {
						count = 2 - f
					}
					of := 0 <= k && k < count
					ok, size := thrownAnswers(p, f, arg, fuel, k)
					if ok != [7]bool{of, valid, valid, valid, ends, valid, valid} {
						t.Error("answers", f, arg, fuel, k, ok)
					}
					if !of && size[0] != 0 || size[1] != count || size[2] != 0 || size[3] != count || size[4] != count || size[5] != count || size[6] != 0 {
						t.Error("tells", f, arg, fuel, k, size)
					}
				}
			}
		}
	}
}

func TestPromise4ChainsRefuseRunsThatDoNotPanic(t *testing.T) {
	for name, p := range map[string]impl.Program{
		"returns": program(nil, body(throw(0))), "exits": program(body(exit())), "is spent": program(body(jump(0, 0), throw(0))),
		"is recovered": program(body(later(1, 0), throw(0)), body(save(0))), "is lost": program(body(later(1, 0), throw(0)), body(exit())),
		"is spent while a panic is on": program(body(later(1, 0), throw(0)), body(set(1, 1), jump(1, 1))),
	} {
		if chain, ok := impl.PanicChain(p, 0, 6, impl.MaxFuel); ok || len(chain) != 0 {
			t.Error(name, chain, ok)
		}
	}
}

// rangeEnds are the numbers about which it turns whether a low and a high are a range.
var rangeEnds = []int{math.MinInt, math.MinInt + 1, -1 << 32, -32869, -32769, -32768, -32767, -32668, -32667, -101, -100, -1, 0, 1, 99, 100, 101,
	32666, 32667, 32668, 32766, 32767, 32768, 32867, 65536, 1 << 32, math.MaxInt - 1, math.MaxInt}

// validRange tells as chapter 4 says it whether a low and a high are a range of arguments.
func validRange(low int, high int) bool {
	return -32768 <= low && low <= 32767 && -32768 <= high && high <= 32767 && low <= high && high-low <= 100
}

func TestPromise4RangesRefuseOthers(t *testing.T) {
	p := program(body(throw(0)), nil)
	for _, low := range rangeEnds {
		for _, high := range rangeEnds {
			valid := validRange(low, high)
			for _, f := range []int{math.MinInt, -1, 0, 1, 2, math.MaxInt} {
				for _, fuel := range []int{math.MinInt, -1, 0, 1, 200, 201, math.MaxInt} {
					want := valid && (f == 0 || f == 1) && 0 <= fuel && fuel <= 200
					count := 0
					if want && f == 0 && fuel > 0 {
						count = high - low + 1
					}
					args, one := impl.PanickingArgs(p, f, low, high, fuel)
					values, two := impl.PanicValues(p, f, low, high, fuel)
					if one != want || two != want || len(args) != count || len(values) != count {
						t.Error("range", f, low, high, fuel, one, two, len(args), len(values))
					}
				}
			}
		}
	}
}

func TestPromise13WhatIsNoProgramHasNoPanics(t *testing.T) {
	for i, p := range invalidPrograms() {
		for _, k := range []int{-1, 0, 1} {
			if ok, size := thrownAnswers(p, 0, 0, 9, k); ok != [7]bool{} || size != [7]int{} {
				t.Error("tells of no program", i, ok, size)
			}
		}
		args, one := impl.PanickingArgs(p, 0, 0, 1, 9)
		values, two := impl.PanicValues(p, 0, 0, 1, 9)
		if one || two || len(args)+len(values) != 0 {
			t.Error("ranges of no program", i, args, values)
		}
	}
}

func TestPromise13PanicsModifyNothing(t *testing.T) {
	for _, p := range append(panickingPrograms(44, 300), invalidPrograms()[:22]...) {
		checkUnmodified(t, p, func(given impl.Program) {
			for f := -1; f <= len(p.Functions); f++ {
				for k := -1; k <= 3; k++ {
					one, first := thrownAnswers(given, f, 1, 60, k)
					two, second := thrownAnswers(given, f, 1, 60, k)
					if one != two || first != second {
						t.Fatalf("other answers of %s", textByRule(p))
					}
				}
				impl.PanickingArgs(given, f, -1, 1, 60)
				impl.PanicValues(given, f, -1, 1, 60)
			}
		})
	}
}

func TestPromise13ListsOfPanicsAreApart(t *testing.T) {
	p := program(body(later(1, 0), later(2, 0), throw(0)), body(throw(0)), body(save(0), throw(0)))
	first, second := tellThrown(t, p, 0, 4, 99), tellThrown(t, p, 0, 4, 99)
	clear(first.fates)
	clear(first.recovered)
	clear(first.replacers)
	clear(first.chain)
	clear(first.depths)
	for _, unwound := range first.unwound {
		clear(unwound)
	}
	if third, want := tellThrown(t, p, 0, 4, 99), modelThrown(p, 0, 4, 99); !sameThrown(second, want) || !sameThrown(third, want) {
		t.Error("lists share memory", second, third)
	}
	args, _ := impl.PanickingArgs(p, 0, 1, 9, 99)
	values, _ := impl.PanicValues(p, 0, 1, 9, 99)
	clear(args)
	clear(values)
	checkRange(t, p, 0, 1, 9, 99)
}
