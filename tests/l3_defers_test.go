package tests

import (
	"math"
	"slices"
	"testing"

	"loop.example/g01183/impl"
)

type pairs = [][2]int

// told is what the functions of chapter 3 tell of a run, put and ran by the numbers of calls.
type told struct {
	calls   []impl.CallInfo
	owners  []int
	depths  []int
	ends    [4]int
	results pairs
	put     []pairs
	ran     []pairs
}

// tell asks all functions of chapter 3 of a run that is valid.
func tell(t *testing.T, p impl.Program, f int, arg int, fuel int) told {
	t.Helper()
	var all told
	var ok [5]bool
	all.calls, ok[0] = impl.CallTree(p, f, arg, fuel)
	all.owners, ok[1] = impl.OwnersOf(p, f, arg, fuel)
	all.depths, ok[2] = impl.DepthsOf(p, f, arg, fuel)
	all.ends, ok[3] = impl.CountEnds(p, f, arg, fuel)
	all.results, ok[4] = impl.ResultsOf(p, f, arg, fuel)
	if ok != [5]bool{true, true, true, true, true} {
		t.Fatalf("%d of %s with %d and %d: %v", f, textByRule(p), arg, fuel, ok)
	}
	for call := range all.calls {
		put, one := impl.DeferredBy(p, f, arg, fuel, call)
		ran, two := impl.RunBy(p, f, arg, fuel, call)
		if !one || !two {
			t.Fatalf("call %d of %d of %s with %d and %d: %t %t", call, f, textByRule(p), arg, fuel, one, two)
		}
		all.put, all.ran = append(all.put, put), append(all.ran, ran)
	}
	return all
}

// modelTold tells of a run what the model has written down.
func modelTold(p impl.Program, f int, arg int, fuel int) told {
	m := modelOf(p, f, arg, fuel)
	all := told{owners: m.owners, results: m.results}
	for _, c := range m.calls {
		info := impl.CallInfo{Function: c.function, Parent: c.parent, Deferred: c.deferred, End: impl.OutSpent}
		if c.ended {
			info.End, info.Value = c.kind, c.value
		}
		all.calls = append(all.calls, info)
		all.depths = append(all.depths, c.depth)
		all.put, all.ran = append(all.put, c.put), append(all.ran, c.ran)
		for i, end := range []int{impl.OutReturned, impl.OutPanicked, impl.OutExited, impl.OutSpent} {
			if info.End == end {
				all.ends[i]++
			}
		}
	}
	return all
}

func sameTold(a told, b told) bool {
	return slices.Equal(a.calls, b.calls) && slices.Equal(a.owners, b.owners) && slices.Equal(a.depths, b.depths) && a.ends == b.ends &&
		slices.Equal(a.results, b.results) && slices.EqualFunc(a.put, b.put, slices.Equal[pairs]) && slices.EqualFunc(a.ran, b.ran, slices.Equal[pairs])
}

func reversed(list pairs) pairs {
	other := slices.Clone(list)
	slices.Reverse(other)
	return other
}

// checkTold compares what is told of a run with the model, and with what chapter 3 guarantees.
func checkTold(t *testing.T, p impl.Program, f int, arg int, fuel int) told {
	t.Helper()
	got, want := tell(t, p, f, arg, fuel), modelTold(p, f, arg, fuel)
	if !sameTold(got, want) {
		t.Fatalf("%d of %s with %d and %d: %v, not %v", f, textByRule(p), arg, fuel, got, want)
	}
	o, ok := impl.RunProgram(p, f, arg, fuel)
	if !ok || len(got.owners) != len(o.Trace) || got.calls[0] != (impl.CallInfo{Function: f, Parent: -1, End: o.Kind, Value: o.Value}) {
		t.Fatalf("the first call of %d of %s with %d and %d: %v", f, textByRule(p), arg, fuel, got)
	}
	for call, info := range got.calls {
		if call > 0 && (info.Parent < 0 || info.Parent >= call) {
			t.Fatalf("parent of %d of %s with %d and %d: %v", f, textByRule(p), arg, fuel, got)
		}
		put, ran := reversed(got.put[call]), got.ran[call]
		if len(ran) > len(put) || !slices.Equal(ran, put[:len(ran)]) || len(ran) < len(put) && info.End != impl.OutSpent {
			t.Fatalf("call %d of %d of %s with %d and %d runs %v", call, f, textByRule(p), arg, fuel, ran)
		}
	}
	for _, call := range []int{-1, len(got.calls)} {
		put, one := impl.DeferredBy(p, f, arg, fuel, call)
		ran, two := impl.RunBy(p, f, arg, fuel, call)
		if one || two || len(put)+len(ran) != 0 {
			t.Fatalf("no call %d of %d of %s with %d and %d: %v %v", call, f, textByRule(p), arg, fuel, put, ran)
		}
	}
	return got
}

// checkSpentToo checks what is told of a run with each fuel. With less, the calls that have begun
// are the first ones of the longer run, and so are the owners.
func checkSpentToo(t *testing.T, p impl.Program, f int, arg int) {
	t.Helper()
	full := checkTold(t, p, f, arg, impl.MaxFuel)
	for fuel := range impl.MaxFuel {
		short := checkTold(t, p, f, arg, fuel)
		if len(short.calls) > len(full.calls) || len(short.owners) > len(full.owners) || !slices.Equal(short.owners, full.owners[:len(short.owners)]) {
			t.Fatalf("%d of %s with %d and %d: %v", f, textByRule(p), arg, fuel, short)
		}
		for call, info := range short.calls {
			whole := full.calls[call]
			if info.End == impl.OutSpent {
				whole.End, whole.Value = impl.OutSpent, 0
			}
			if info != whole {
				t.Fatalf("call %d of %d of %s with %d and %d: %v", call, f, textByRule(p), arg, fuel, info)
			}
		}
	}
}

// The calls of runs, by short names.
func made(f int, parent int, end int, value int) impl.CallInfo {
	return impl.CallInfo{Function: f, Parent: parent, End: end, Value: value}
}
func ran(f int, parent int, end int, value int) impl.CallInfo {
	return impl.CallInfo{Function: f, Parent: parent, Deferred: true, End: end, Value: value}
}

// checkCalls compares a run of the function 0 with all that is to be told of it.
func checkCalls(t *testing.T, name string, p impl.Program, arg int, fuel int, want told) {
	t.Helper()
	if got := checkTold(t, p, 0, arg, fuel); !sameTold(got, want) {
		t.Errorf("%s: %v, not %v", name, got, want)
	}
}

const back, panics, leaves, stops = impl.OutReturned, impl.OutPanicked, impl.OutExited, impl.OutSpent

func TestPromise3WhatIsToldIsWhatTheModelWritesDown(t *testing.T) {
	var ends [5]int
	var most, deepest, nested, missing int
	for _, p := range randomPrograms(31, 6000) {
		for f := range p.Functions {
			for _, run := range [][2]int{{-32768, impl.MaxFuel}, {1, impl.MaxFuel}, {5, 40}, {1, 11}} {
				all := checkTold(t, p, f, run[0], run[1])
				for call, info := range all.calls {
					ends[info.End]++
					most, deepest = max(most, len(all.put[call])), max(deepest, all.depths[call])
					if info.Deferred && len(all.ran[call]) > 0 {
						nested++
					}
					if k := len(all.ran[call]); k > 0 && k < len(all.put[call]) {
						missing++
					}
				}
			}
		}
	}
	if slices.Min(ends[1:]) < 1000 || most < 8 || deepest != impl.MaxDepth || nested < 1000 || missing < 100 {
		t.Error("the runs are too much alike", ends, most, deepest, nested, missing)
	}
}

func TestPromise3EachFuel(t *testing.T) {
	for i, p := range randomPrograms(32, 250) {
		checkSpentToo(t, p, 0, edgeNumbers[i%len(edgeNumbers)])
	}
}

func TestPromise3DeferredCallsAreRunInTheOppositeOrder(t *testing.T) {
	p := program(body(later(1, 0), later(2, 0), later(1, 0), later(3, 0), later(3, 0)), body(set(1, 4)), nil, body(set(1, 5)))
	checkCalls(t, "five", p, 6, impl.MaxFuel, told{
		calls:  []impl.CallInfo{made(0, -1, back, 0), ran(3, 0, back, 5), ran(3, 0, back, 5), ran(1, 0, back, 4), ran(2, 0, back, 0), ran(1, 0, back, 4)},
		owners: []int{0, 0, 0, 0, 0, 0, 1, 1, 2, 2, 3, 3, 4, 4, 5, 5, 0}, depths: []int{1, 2, 2, 2, 2, 2}, ends: [4]int{6, 0, 0, 0},
		results: pairs{{3, 5}, {3, 5}, {1, 4}, {2, 0}, {1, 4}, {0, 0}},
		put:     []pairs{{{1, 6}, {2, 6}, {1, 6}, {3, 6}, {3, 6}}, nil, nil, nil, nil, nil},
		ran:     []pairs{{{3, 6}, {3, 6}, {1, 6}, {2, 6}, {1, 6}}, nil, nil, nil, nil, nil},
	})
}

func TestPromise3ArgumentsAreThoseOfTheTimeOfTheDefer(t *testing.T) {
	// The register changes behind each StepDefer, in the body.
	p := program(body(later(1, 0), set(0, 7), later(1, 0), add(0, 0), later(1, 0), set(0, -3), later(1, 2), give(0)), body(say(0)))
	all := checkTold(t, p, 0, 6, impl.MaxFuel)
	said, ok := impl.SaidNumbers(p, 0, 6, impl.MaxFuel)
	if !slices.Equal(all.put[0], pairs{{1, 6}, {1, 7}, {1, 14}, {1, 0}}) || !slices.Equal(all.ran[0], pairs{{1, 0}, {1, 14}, {1, 7}, {1, 6}}) {
		t.Error("changed in the body", all)
	}
	if !ok || !slices.Equal(said, []int{0, 14, 7, 6}) {
		t.Error("said of what changes in the body", said)
	}
	// A deferred call changes the named result, of which another one is deferred.
	p = program(body(set(1, 3), later(1, 1), later(1, 1)), body(say(0), set(2, 9), outer(2)))
	all = checkTold(t, p, 0, 6, impl.MaxFuel)
	said, ok = impl.SaidNumbers(p, 0, 6, impl.MaxFuel)
	if !slices.Equal(all.ran[0], pairs{{1, 3}, {1, 3}}) || all.calls[0] != made(0, -1, back, 9) || !ok || !slices.Equal(said, []int{3, 3}) {
		t.Error("changed by a deferred call", all, said)
	}
	// A call changes the register 2, and the shared number.
	p = program(body(later(1, 2), call(2, 0), later(1, 2), take(2), later(1, 2)), nil, body(set(1, 5), keep(0)))
	all = checkTold(t, p, 0, 6, impl.MaxFuel)
	if !slices.Equal(all.put[0], pairs{{1, 0}, {1, 5}, {1, 6}}) || !slices.Equal(all.ran[0], pairs{{1, 6}, {1, 5}, {1, 0}}) {
		t.Error("changed by a call", all)
	}
}

func TestPromise3RunsThatAreSpentFromTheStart(t *testing.T) {
	// Without fuel the first call has begun, but no Step is made, and so no other call.
	for _, first := range []impl.Step{call(1, 0), later(1, 0), throw(0), exit(), say(0)} {
		p := program(body(first, later(1, 0)), nil)
		checkCalls(t, "no fuel", p, 6, 0, told{calls: []impl.CallInfo{made(0, -1, stops, 0)}, owners: []int{0}, depths: []int{1},
			ends: [4]int{0, 0, 0, 1}, put: []pairs{nil}, ran: []pairs{nil}})
	}
	// All is spent before the first call that a StepCall makes, or the first deferred one, begins.
	checkCalls(t, "ahead of a call", program(body(say(0), call(1, 0)), nil), 6, 1, told{calls: []impl.CallInfo{made(0, -1, stops, 0)},
		owners: []int{0, 0}, depths: []int{1}, ends: [4]int{0, 0, 0, 1}, put: []pairs{nil}, ran: []pairs{nil}})
	checkCalls(t, "ahead of deferred calls", program(body(later(1, 0), later(1, 0), say(0)), nil), 6, 2, told{calls: []impl.CallInfo{made(0, -1, stops, 0)},
		owners: []int{0, 0, 0}, depths: []int{1}, ends: [4]int{0, 0, 0, 1}, put: []pairs{{{1, 6}, {1, 6}}}, ran: []pairs{nil}})
}

func TestPromise3RunsThatAreSpentAmongDeferredCalls(t *testing.T) {
	p := program(body(later(1, 0), later(2, 0), later(3, 0), later(4, 0)), body(say(0)), body(set(1, 2)), nil, body(set(1, 4)))
	put := pairs{{1, 6}, {2, 6}, {3, 6}, {4, 6}}
	for fuel, want := range []struct {
		put, ran int
		ends     [4]int
	}{{0, 0, [4]int{0, 0, 0, 1}}, {1, 0, [4]int{0, 0, 0, 1}}, {2, 0, [4]int{0, 0, 0, 1}}, {3, 0, [4]int{0, 0, 0, 1}},
		{4, 1, [4]int{0, 0, 0, 2}}, {4, 3, [4]int{2, 0, 0, 2}}, {4, 4, [4]int{3, 0, 0, 2}}, {4, 4, [4]int{5, 0, 0, 0}}} {
		all := checkTold(t, p, 0, 6, fuel)
		if !slices.Equal(all.put[0], put[:want.put]) || !slices.Equal(all.ran[0], reversed(put)[:want.ran]) || all.ends != want.ends {
			t.Error("with the fuel", fuel, all)
		}
	}
	checkCalls(t, "at the third", p, 6, 5, told{
		calls:  []impl.CallInfo{made(0, -1, stops, 0), ran(4, 0, back, 4), ran(3, 0, back, 0), ran(2, 0, stops, 0)},
		owners: []int{0, 0, 0, 0, 0, 1, 1, 2, 2, 3}, depths: []int{1, 2, 2, 2}, ends: [4]int{2, 0, 0, 2}, results: pairs{{4, 4}, {3, 0}},
		put: []pairs{put, nil, nil, nil}, ran: []pairs{{{4, 6}, {3, 6}, {2, 6}}, nil, nil, nil},
	})
	// The call has panicked, but it has not ended; nor has it if a deferred call has recovered.
	p = program(body(later(1, 0), later(2, 0), throw(0)), body(say(0)), body(save(0)))
	for fuel, ran := range map[int]pairs{2: nil, 3: {{2, 6}}, 4: {{2, 6}, {1, 6}}} {
		all := checkTold(t, p, 0, 6, fuel)
		if all.calls[0] != made(0, -1, stops, 0) || !slices.Equal(all.ran[0], ran) {
			t.Error("panicked with the fuel", fuel, all)
		}
	}
	checkSpentToo(t, p, 0, 6)
}

func TestPromise3CallsThatDeferNothing(t *testing.T) {
	for _, end := range [][]impl.Step{nil, {give(0)}, {throw(0)}, {exit()}, {say(0), call(2, 0)}} {
		p := program(body(call(1, 0), later(2, 0)), end, nil)
		all := checkTold(t, p, 0, 6, impl.MaxFuel)
		if len(all.put) < 2 || len(all.put[1])+len(all.ran[1]) != 0 {
			t.Error("a call defers", all)
		}
		alone := checkTold(t, p, 1, 6, impl.MaxFuel)
		if len(alone.put[0])+len(alone.ran[0]) != 0 || all.calls[1].End != alone.calls[0].End {
			t.Error("the first call defers", alone)
		}
	}
	checkCalls(t, "no defers", program(body(call(1, 0), say(2)), body(set(1, 8))), 6, impl.MaxFuel, told{
		calls:  []impl.CallInfo{made(0, -1, back, 0), made(1, 0, back, 8)},
		owners: []int{0, 1, 1, 0, 0}, depths: []int{1, 2}, ends: [4]int{2, 0, 0, 0}, results: pairs{{1, 8}, {0, 0}}, put: []pairs{nil, nil}, ran: []pairs{nil, nil},
	})
}

func TestPromise3FunctionsWithoutSteps(t *testing.T) {
	for _, p := range []impl.Program{program(nil), program(body()), program(nil, body(say(0)))} {
		for _, fuel := range []int{0, 1, impl.MaxFuel} {
			checkCalls(t, "without Steps", p, 6, fuel, told{calls: []impl.CallInfo{made(0, -1, back, 0)}, owners: []int{0, 0}, depths: []int{1},
				ends: [4]int{1, 0, 0, 0}, results: pairs{{0, 0}}, put: []pairs{nil}, ran: []pairs{nil}})
		}
	}
	p := program(body(call(1, 0)), nil)
	if same, ok := impl.DeferCalls(p, 1); !ok || !sameProgram(same, p) {
		t.Error("defers the calls of no Step", same, ok)
	}
	if more, ok := impl.WithDefer(program(nil, nil), 1, 0, 3); !ok || !sameProgram(more, program(nil, body(later(0, 3)))) {
		t.Error("with a defer alone", more, ok)
	}
}

func TestPromise3DeferredCallsDeferCallsOfTheirOwn(t *testing.T) {
	p := program(body(later(1, 0), later(2, 0), set(0, 1)), body(later(2, 0), add(0, 0), later(2, 0)), body(later(3, 0)), body(set(1, 7)))
	checkCalls(t, "in each other", p, 5, impl.MaxFuel, told{
		calls: []impl.CallInfo{made(0, -1, back, 0), ran(2, 0, back, 0), ran(3, 1, back, 7), ran(1, 0, back, 0), ran(2, 3, back, 0), ran(3, 4, back, 7),
			ran(2, 3, back, 0), ran(3, 6, back, 7)},
		owners: []int{0, 0, 0, 1, 1, 2, 2, 1, 3, 3, 3, 4, 4, 5, 5, 4, 6, 6, 7, 7, 6, 3, 0}, depths: []int{1, 2, 3, 2, 3, 4, 3, 4}, ends: [4]int{8, 0, 0, 0},
		results: pairs{{3, 7}, {2, 0}, {3, 7}, {2, 0}, {3, 7}, {2, 0}, {1, 0}, {0, 0}},
		put:     []pairs{{{1, 5}, {2, 5}}, {{3, 5}}, nil, {{2, 5}, {2, 10}}, {{3, 10}}, nil, {{3, 5}}, nil},
		ran:     []pairs{{{2, 5}, {1, 5}}, {{3, 5}}, nil, {{2, 10}, {2, 5}}, {{3, 10}}, nil, {{3, 5}}, nil},
	})
	// A deferred call makes one that defers, and the calls of both run their own.
	p = program(body(later(1, 0)), body(call(2, 0), later(3, 0)), body(later(3, 0), later(3, 3)), nil)
	all := checkTold(t, p, 0, 5, impl.MaxFuel)
	want := []impl.CallInfo{made(0, -1, back, 0), ran(1, 0, back, 0), made(2, 1, back, 0), ran(3, 2, back, 0), ran(3, 2, back, 0), ran(3, 1, back, 0)}
	if !slices.Equal(all.calls, want) || !slices.Equal(all.ran[1], pairs{{3, 5}}) || !slices.Equal(all.ran[2], pairs{{3, 0}, {3, 5}}) {
		t.Error("by a call of a deferred one", all)
	}
	checkSpentToo(t, p, 0, 5)
}

func TestPromise3Ends(t *testing.T) {
	// The function 1 panics and is recovered, 3 panics and 4 exits, each behind a deferred call.
	p := program(body(set(2, 9), call(1, 2), later(2, 0), call(3, 0)), body(later(2, 0), later(5, 0), throw(0)), body(save(1)),
		body(later(5, 1), later(4, 0), throw(0)), body(later(5, 0), exit()), nil)
	checkCalls(t, "all ends", p, 6, impl.MaxFuel, told{
		calls: []impl.CallInfo{made(0, -1, leaves, 0), made(1, 0, back, 0), ran(5, 1, back, 0), ran(2, 1, back, 9),
			made(3, 0, leaves, 0), ran(4, 4, leaves, 0), ran(5, 5, back, 0), ran(5, 4, back, 0), ran(2, 0, back, 0)},
		owners: []int{0, 1, 1, 1, 1, 2, 2, 3, 3, 3, 1, 0, 4, 4, 4, 4, 5, 5, 6, 6, 5, 7, 7, 4, 8, 8, 0}, depths: []int{1, 2, 3, 3, 2, 3, 4, 3, 2},
		ends: [4]int{6, 0, 3, 0}, results: pairs{{5, 0}, {2, 9}, {1, 0}, {5, 0}, {5, 0}, {2, 0}},
		put: []pairs{{{2, 6}}, {{2, 9}, {5, 9}}, nil, nil, {{5, 0}, {4, 6}}, {{5, 6}}, nil, nil, nil},
		ran: []pairs{{{2, 6}}, {{5, 9}, {2, 9}}, nil, nil, {{4, 6}, {5, 0}}, {{5, 6}}, nil, nil, nil},
	})
	// A panic goes through calls that are made and deferred; the last one is that of a deferred call.
	p = program(body(later(2, 0), call(1, 0)), body(later(3, 0), throw(0)), nil, body(set(2, -1), throw(2)))
	checkCalls(t, "panics", p, 6, impl.MaxFuel, told{
		calls:  []impl.CallInfo{made(0, -1, panics, -1), made(1, 0, panics, -1), ran(3, 1, panics, -1), ran(2, 0, back, 0)},
		owners: []int{0, 0, 1, 1, 1, 2, 2, 2, 1, 3, 3, 0}, depths: []int{1, 2, 3, 2}, ends: [4]int{1, 3, 0, 0}, results: pairs{{2, 0}},
		put: []pairs{{{2, 6}}, {{3, 6}}, nil, nil}, ran: []pairs{{{2, 6}}, {{3, 6}}, nil, nil},
	})
	// A call that is recovered has the result that a deferred call gives it.
	all := checkTold(t, program(body(later(1, 0), throw(0)), body(save(0), outer(0))), 0, 6, impl.MaxFuel)
	if !slices.Equal(all.results, pairs{{1, 0}, {0, 6}}) || all.ends != [4]int{2, 0, 0, 0} {
		t.Error("recovered", all)
	}
	// One that is leaving exits where it is recovered.
	all = checkTold(t, program(body(later(1, 0), later(2, 0), exit()), body(save(0)), body(throw(0))), 0, 6, impl.MaxFuel)
	if !slices.Equal(all.results, pairs{{1, 0}}) || all.ends != [4]int{1, 1, 1, 0} || !slices.Equal(all.ran[0], pairs{{2, 6}, {1, 6}}) {
		t.Error("recovered and left", all)
	}
}

func TestPromise3CallsThatWouldBeTooDeep(t *testing.T) {
	// Each call defers one, which is run by none as the last StepCall goes too deep.
	all := checkTold(t, program(body(later(1, 0), call(0, 0)), body(save(0))), 0, 6, impl.MaxFuel)
	if len(all.calls) != impl.MaxDepth || all.ends != [4]int{0, 0, 0, impl.MaxDepth} || !slices.Equal(all.depths, []int{1, 2, 3, 4, 5, 6, 7, 8}) {
		t.Error("too deep", all)
	}
	for call, info := range all.calls {
		if info != made(0, call-1, stops, 0) || !slices.Equal(all.put[call], pairs{{1, 6}}) || len(all.ran[call]) != 0 {
			t.Error("too deep", call, all)
		}
	}
	// With an argument n, n calls are open when the last one runs what it has deferred, one deeper.
	p := program(body(set(3, -1), later(1, 0), later(2, 0), add(0, 3), jump(6, 0), give(0), call(0, 0)), body(say(0)), nil)
	for n := 1; n <= impl.MaxDepth+2; n++ {
		all := checkTold(t, p, 0, n, impl.MaxFuel)
		calls, run, ends := 3*n, 2, [4]int{3 * n, 0, 0, 0}
		if n >= impl.MaxDepth {
			calls, run, ends = impl.MaxDepth, 0, [4]int{0, 0, 0, impl.MaxDepth}
		}
		if len(all.calls) != calls || all.ends != ends {
			t.Error("deep", n, all)
		}
		for call := range min(n, impl.MaxDepth) {
			arg := n - call
			if !slices.Equal(all.put[call], pairs{{1, arg}, {2, arg}}) || !slices.Equal(all.ran[call], pairs{{2, arg}, {1, arg}}[:run]) {
				t.Error("deferred by a deep call", n, call, all)
			}
		}
		checkSpentToo(t, p, 0, n)
	}
	// Deferred calls that run each other go too deep as well.
	all = checkTold(t, program(body(say(0), later(0, 0))), 0, 6, impl.MaxFuel)
	if len(all.calls) != impl.MaxDepth || all.depths[7] != impl.MaxDepth || len(all.put[7]) != 1 || len(all.ran[7]) != 0 || len(all.ran[6]) != 1 {
		t.Error("too deep by deferred calls", all)
	}
}

// withDeferByRule puts a StepDefer ahead of a body as chapters 2 and 3 say it, beside the program.
func withDeferByRule(p impl.Program, f int, g int, r int) impl.Program {
	more := copied(p)
	for i, s := range more.Functions[f] {
		if s.Kind == impl.StepJump && s.A < 8 {
			more.Functions[f][i].A++
		}
	}
	more.Functions[f] = append(body(later(g, r)), more.Functions[f]...)
	return more
}

func TestPromise3WithDeferPutsItAheadOfAll(t *testing.T) {
	put, full := 0, 0
	for _, p := range randomPrograms(33, 700) {
		for f, b := range p.Functions {
			for g := range p.Functions {
				for r := range impl.Registers {
					more, ok := impl.WithDefer(p, f, g, r)
					if len(b) == impl.MaxBody {
						full++
						if ok || len(more.Functions) != 0 {
							t.Fatalf("no place in %d of %s: %s", f, textByRule(p), textByRule(more))
						}
						continue
					}
					put++
					if !ok || !sameProgram(more, withDeferByRule(p, f, g, r)) {
						t.Fatalf("%d with a defer of %d in %s: %s %t", f, g, textByRule(p), textByRule(more), ok)
					}
				}
			}
		}
	}
	if put < 1000 || full < 1000 {
		t.Error("too few are put or refused", put, full)
	}
}

func TestPromise3WhatIsDeferredFirstIsRunLast(t *testing.T) {
	compared := 0
	for _, p := range randomPrograms(34, 1500) {
		for f := range p.Functions {
			for r := range impl.Registers {
				more, ok := impl.WithDefer(p, f, 0, r)
				if !ok {
					continue
				}
				all := checkTold(t, more, f, 7, 60)
				want := [2]int{0, 0}
				if r == 0 {
					want[1] = 7
				}
				if len(all.put[0]) == 0 || all.put[0][0] != want {
					t.Fatalf("deferred first by %d of %s: %v", f, textByRule(more), all.put[0])
				}
				if all.calls[0].End == stops {
					continue
				}
				compared++
				if all.ran[0][len(all.ran[0])-1] != want {
					t.Fatalf("run last by %d of %s: %v", f, textByRule(more), all.ran[0])
				}
			}
		}
	}
	if compared < 1000 {
		t.Error("too few are compared", compared)
	}
}

func TestPromise3WithDeferDefersOnceInALoop(t *testing.T) {
	// A StepJump to the first Step goes to the same Step as before, and not to the StepDefer.
	p := program(body(set(3, -1), say(0), add(0, 3), jump(0, 0)), body(say(0)))
	more, ok := impl.WithDefer(p, 0, 1, 0)
	said, fine := impl.SaidNumbers(more, 0, 3, impl.MaxFuel)
	if !ok || !fine || !slices.Equal(said, []int{3, 2, 1, 3}) || !sameProgram(more, program(body(later(1, 0), set(3, -1), say(0), add(0, 3), jump(1, 0)), body(say(0)))) {
		t.Error("in a loop", textByRule(more), said)
	}
	if all := checkTold(t, more, 0, 3, impl.MaxFuel); !slices.Equal(all.put[0], pairs{{1, 3}}) || !slices.Equal(all.ran[0], pairs{{1, 3}}) {
		t.Error("deferred in a loop", all)
	}
}

func TestPromise3WithDeferNeedsAPlace(t *testing.T) {
	for size := range impl.MaxBody + 1 {
		b := slices.Repeat(body(say(1)), size)
		for _, f := range []int{0, 1} {
			p := program(nil, nil)
			p.Functions[f] = b
			more, ok := impl.WithDefer(p, f, 1, 2)
			if ok != (size < impl.MaxBody) || ok && len(more.Functions[f]) != size+1 || !ok && len(more.Functions) != 0 {
				t.Error("with a defer", size, more, ok)
			}
			// It is the body of f that needs the place, not that of g.
			if other, ok := impl.WithDefer(p, 1-f, f, 2); !ok || len(other.Functions[1-f]) != 1 || !slices.Equal(other.Functions[f], b) {
				t.Error("with a defer of a full one", size, other, ok)
			}
		}
	}
}

func TestPromise3WithDeferRefusesOthers(t *testing.T) {
	values := []int{math.MinInt, -1 << 32, -1, 0, 1, 2, 3, 4, 5, 6, 8, 1 << 32, 1<<32 + 1, math.MaxInt}
	p := program(body(say(0), jump(0, 1)), nil, body(exit()))
	for _, f := range values {
		for _, g := range values {
			for _, r := range values {
				valid := 0 <= f && f < 3 && 0 <= g && g < 3 && 0 <= r && r < 4
				more, ok := impl.WithDefer(p, f, g, r)
				if ok != valid || valid && !sameProgram(more, withDeferByRule(p, f, g, r)) || !valid && len(more.Functions) != 0 {
					t.Error("with a defer", f, g, r, more, ok)
				}
			}
		}
		same, ok := impl.DeferCalls(p, f)
		if valid := 0 <= f && f < 3; ok != valid || valid && !sameProgram(same, p) || !valid && len(same.Functions) != 0 {
			t.Error("defers the calls of", f, same, ok)
		}
	}
}

func TestPromise3DeferCallsDefersEachCall(t *testing.T) {
	changed := 0
	for _, p := range randomPrograms(35, 3000) {
		for f := range p.Functions {
			want := copied(p)
			for i, s := range want.Functions[f] {
				if s.Kind == impl.StepCall {
					changed++
					want.Functions[f][i] = later(s.A, s.B)
				}
			}
			got, ok := impl.DeferCalls(p, f)
			if !ok || !sameProgram(got, want) {
				t.Fatalf("defers the calls of %d of %s: %s %t", f, textByRule(p), textByRule(got), ok)
			}
			if again, ok := impl.DeferCalls(got, f); !ok || !sameProgram(again, got) {
				t.Fatalf("defers the calls of %d of %s again: %s %t", f, textByRule(got), textByRule(again), ok)
			}
			for call, info := range tell(t, got, f, 1, 50).calls {
				if call > 0 && info.Parent == 0 && !info.Deferred {
					t.Fatalf("the first call makes one: %d of %s", f, textByRule(got))
				}
			}
		}
	}
	if changed < 1000 {
		t.Error("too few calls are deferred", changed)
	}
}

func TestPromise3CallsThatAreDeferredAreTurnedRound(t *testing.T) {
	p := program(body(call(1, 0), set(0, 7), call(1, 0), call(2, 0), set(0, 8), say(0)), body(say(0)), body(call(1, 1)))
	deferred, ok := impl.DeferCalls(p, 0)
	before, one := impl.SaidNumbers(p, 0, 6, impl.MaxFuel)
	behind, two := impl.SaidNumbers(deferred, 0, 6, impl.MaxFuel)
	if !ok || !one || !two || !slices.Equal(before, []int{6, 7, 0, 8}) || !slices.Equal(behind, []int{8, 0, 7, 6}) {
		t.Error("turned round", textByRule(deferred), before, behind)
	}
	all := checkTold(t, deferred, 0, 6, impl.MaxFuel)
	if !slices.Equal(all.put[0], pairs{{1, 6}, {1, 7}, {2, 7}}) || !slices.Equal(all.ran[0], pairs{{2, 7}, {1, 7}, {1, 6}}) {
		t.Error("turned round", all)
	}
}

func TestPromise3StackProgram(t *testing.T) {
	p := impl.StackProgram()
	if !impl.IsProgram(p) || textByRule(p) != "1.3.-1 5.1.0 2.0.3 11.1.0/3.0.0" {
		t.Fatal("the program", textByRule(p))
	}
	// The first Step is made once, three others for each number, and one in each deferred call.
	for n := 1; n <= 60; n++ {
		fuel := 4*n + 1
		least, ends := impl.FuelOf(p, 0, n)
		said, ok := impl.SaidNumbers(p, 0, n, impl.MaxFuel)
		if !ok || ends != (fuel <= impl.MaxFuel) || ends && least != fuel {
			t.Error("fuel", n, least, ends)
		}
		for k, number := range said {
			if number != k+1 {
				t.Error("said", n, said)
			}
		}
		if ends && len(said) != n || !ends && len(said) >= n {
			t.Error("said", n, said)
		}
		checkTold(t, p, 0, n, impl.MaxFuel)
	}
	checkCalls(t, "of 2", p, 2, impl.MaxFuel, told{
		calls:  []impl.CallInfo{made(0, -1, back, 0), ran(1, 0, back, 0), ran(1, 0, back, 0)},
		owners: []int{0, 0, 0, 1, 1, 1, 2, 2, 2, 0}, depths: []int{1, 2, 2}, ends: [4]int{3, 0, 0, 0}, results: pairs{{1, 0}, {1, 0}, {0, 0}},
		put: []pairs{{{1, 2}, {1, 1}}, nil, nil}, ran: []pairs{{{1, 1}, {1, 2}}, nil, nil},
	})
	checkSpentToo(t, p, 0, 10)
	// The Steps are made once for a number that is not greater, but -32768 wraps around.
	for _, n := range []int{0, -1, -32767} {
		if said, ok := impl.SaidNumbers(p, 0, n, impl.MaxFuel); !ok || !slices.Equal(said, []int{n}) {
			t.Error("said", n, said)
		}
	}
	if all := checkTold(t, p, 0, -32768, impl.MaxFuel); all.calls[0].End != stops || !slices.Equal(all.put[0][:2], pairs{{1, -32768}, {1, 32767}}) {
		t.Error("wrapped around", all)
	}
}

// answers asks all functions of chapter 3 that tell of a run, and returns whether they do not fail
// and how much they tell. The first two also need a call.
func answers(p impl.Program, f int, arg int, fuel int, call int) ([7]bool, [7]int) {
	put, one := impl.DeferredBy(p, f, arg, fuel, call)
	ran, two := impl.RunBy(p, f, arg, fuel, call)
	calls, three := impl.CallTree(p, f, arg, fuel)
	owners, four := impl.OwnersOf(p, f, arg, fuel)
	ends, five := impl.CountEnds(p, f, arg, fuel)
	results, six := impl.ResultsOf(p, f, arg, fuel)
	depths, seven := impl.DepthsOf(p, f, arg, fuel)
	return [7]bool{one, two, three, four, five, six, seven},
		[7]int{len(put), len(ran), len(calls), len(owners), ends[0] + ends[1] + ends[2] + ends[3], len(results), len(depths)}
}

func TestPromise3RunsAndCallsRefuseOthers(t *testing.T) {
	p := program(body(later(1, 0), call(1, 0)), nil)
	for _, f := range []int{math.MinInt, -1, 0, 1, 2, 6, 1 << 32, math.MaxInt} {
		for _, arg := range []int{math.MinInt, -32769, -32768, 0, 32767, 32768, 65536, math.MaxInt} {
			for _, fuel := range []int{math.MinInt, -1, 0, 1, 200, 201, 1 << 32, math.MaxInt} {
				for _, call := range []int{math.MinInt, -1 << 32, -2, -1, 0, 1, 2, 3, 1 << 32, math.MaxInt} {
					valid := (f == 0 || f == 1) && -32768 <= arg && arg <= 32767 && 0 <= fuel && fuel <= 200
					calls := 1
					if f == 0 && fuel > 1 {
						calls = 3
					}
					of := valid && 0 <= call && call < calls
					ok, size := answers(p, f, arg, fuel, call)
					if ok != [7]bool{of, of, valid, valid, valid, valid, valid} {
						t.Error("answers", f, arg, fuel, call, ok)
					}
					if !of && size[0]+size[1] != 0 || !valid && size != [7]int{} || valid && size[2] != calls {
						t.Error("tells", f, arg, fuel, call, size)
					}
				}
			}
		}
	}
}

func TestPromise13WhatIsNoProgramDefersNothing(t *testing.T) {
	for i, p := range invalidPrograms() {
		for _, call := range []int{-1, 0, 1} {
			if ok, size := answers(p, 0, 0, 9, call); ok != [7]bool{} || size != [7]int{} {
				t.Error("tells of no program", i, ok, size)
			}
		}
		more, one := impl.WithDefer(p, 0, 0, 0)
		less, two := impl.DeferCalls(p, 0)
		if one || two || len(more.Functions)+len(less.Functions) != 0 {
			t.Error("programs of no program", i, more, less)
		}
	}
}

func TestPromise13DefersModifyNothing(t *testing.T) {
	for _, p := range append(randomPrograms(36, 300), invalidPrograms()[:22]...) {
		checkUnmodified(t, p, func(given impl.Program) {
			for f := -1; f <= len(p.Functions); f++ {
				for call := -1; call <= 3; call++ {
					one, first := answers(given, f, 1, 60, call)
					two, second := answers(given, f, 1, 60, call)
					if one != two || first != second {
						t.Fatalf("other answers of %s", textByRule(p))
					}
				}
				for g := -1; g <= len(p.Functions); g++ {
					more, _ := impl.WithDefer(given, f, g, 1)
					again, _ := impl.WithDefer(given, f, g, 1)
					if !sameProgram(more, again) {
						t.Fatalf("another program of %s", textByRule(p))
					}
				}
				impl.DeferCalls(given, f)
			}
		})
	}
}

func TestPromise13ProgramsThatDeferAreApart(t *testing.T) {
	p := program(body(say(0), jump(1, 0), call(1, 2)), body(save(0)), body(exit(), call(0, 1)))
	checkProgramsApart(t, p,
		func() (impl.Program, bool) { return impl.WithDefer(p, 0, 1, 2) },
		func() (impl.Program, bool) { return impl.DeferCalls(p, 0) },
		func() (impl.Program, bool) { return impl.DeferCalls(p, 1) },
		func() (impl.Program, bool) { return impl.StackProgram(), true },
	)
}

func TestPromise13ListsOfCallsAreApart(t *testing.T) {
	p := program(body(later(1, 0), call(1, 0), later(1, 0)), body(say(0)))
	first, second := tell(t, p, 0, 4, 99), tell(t, p, 0, 4, 99)
	clear(first.calls)
	clear(first.owners)
	clear(first.depths)
	clear(first.results)
	clear(first.put[0])
	clear(first.ran[0])
	if third, want := tell(t, p, 0, 4, 99), modelTold(p, 0, 4, 99); !sameTold(second, want) || !sameTold(third, want) {
		t.Error("lists share memory", second, third)
	}
}
