package tests

import (
	"math"
	"math/rand/v2"
	"slices"
	"testing"

	"loop.example/g01183/impl"
)

// policy returns a Policy with all of its fields.
func policy(tries int, wait int, factor int, most int) impl.Policy {
	return impl.Policy{Tries: tries, Wait: wait, Factor: factor, Most: most}
}

// deed returns a Deed that does one function and is taken back by another one.
func deed(do int, back int) impl.Deed { return impl.Deed{Do: do, Back: back} }

// watch returns a Watch with both of its fields.
func watch(limit int, span int) impl.Watch { return impl.Watch{Limit: limit, Span: span} }

// mixed returns a Program whose function 0 panics with arguments up to 0, for 2 of the fuel, exits
// with 1, for 6, returns 0 with 2, for 8, and spends all with greater ones.
func mixed() impl.Program {
	return program(
		body(jump(2, 0), throw(0), call(1, 0)),
		body(set(2, -1), add(2, 0), jump(4, 2), exit(), set(2, -2), add(2, 0), jump(6, 2)),
	)
}

// climbs returns a Program that returns its argument if that is at least a number, and panics with
// it if not, for 4 of the fuel.
func climbs(least int) impl.Program {
	return program(body(set(2, 1-least), add(2, 0), jump(4, 2), throw(0), give(0)))
}

// climbsBehind returns a Program that returns its argument if that is less than 0 and at least a
// number, and panics with it if not.
func climbsBehind(least int) impl.Program {
	return program(body(jump(4, 0), set(2, wrapped(1-least)), add(2, 0), jump(5, 2), throw(0), give(0)))
}

// decidingPrograms returns valid Programs, always the same ones for the same seed: what their
// functions do turns on whether the argument is greater than a small number.
func decidingPrograms(seed uint64, count int) []impl.Program {
	r := rand.New(rand.NewPCG(seed, 88))
	all := make([]impl.Program, count)
	for i := range all {
		functions := 1 + r.IntN(impl.MaxFunctions)
		for f := range functions {
			next := r.IntN(functions)
			bad := [][]impl.Step{{throw(0)}, {throw(0)}, {throw(2)}, {exit()}, {call(f, 0)}, {later(next, 0), throw(2)}, {call(next, 3), throw(3)}}[r.IntN(7)]
			good := [][]impl.Step{{give(0)}, {give(0)}, {give(2)}, {say(0), give(1)}, {call(next, 2), give(2)}, {later(next, 2), give(0)}, {set(3, 1), add(0, 3), give(0)}}[r.IntN(7)]
			if r.IntN(9) == 0 {
				bad = body(jump(3, 2))
			}
			first, second := bad, good
			if r.IntN(3) == 0 {
				first, second = good, bad
			}
			b := append(body(set(2, r.IntN(9)-4), add(2, 0), jump(3+len(first), 2)), first...)
			all[i].Functions = append(all[i].Functions, append(b, second...))
		}
	}
	return all
}

func TestPromise8WhatTestProgramsDo(t *testing.T) {
	for arg, want := range map[int]impl.Outcome{-32768: {Kind: panics, Value: -32768, Spent: 2}, 0: {Kind: panics, Spent: 2}, 1: {Kind: leaves, Spent: 6},
		2: {Kind: back, Spent: 8}, 3: {Kind: stops, Spent: 200}, 32767: {Kind: stops, Spent: 200}} {
		if o, ok := impl.RunProgram(mixed(), 0, arg, impl.MaxFuel); !ok || o.Kind != want.Kind || o.Value != want.Value || o.Spent != want.Spent {
			t.Error("mixed", arg, o, ok)
		}
	}
	for arg := -5; arg < 9; arg++ {
		kind := panics
		if arg >= 3 {
			kind = back
		}
		if o, ok := impl.RunProgram(climbs(3), 0, arg, impl.MaxFuel); !ok || o.Kind != kind || o.Value != arg || o.Spent != 4 {
			t.Error("climbs", arg, o, ok)
		}
	}
	for _, p := range decidingPrograms(80, 500) {
		if !impl.IsProgram(p) {
			t.Error("no program", textByRule(p))
		}
	}
}

// policyEdges are the numbers about which it turns whether a Policy is valid.
var policyEdges = []int{math.MinInt, -1 << 32, -1, 0, 1, 2, 6, 7, 19, 20, 21, 9999, 10000, 10001, 1 << 32, 1<<32 + 1, math.MaxInt}

// waitsByRule returns the waits of a Policy, each one by itself.
func waitsByRule(w impl.Policy) []int {
	var waits []int
	for i := range w.Tries - 1 {
		wait := w.Wait
		for range i {
			wait *= w.Factor
		}
		waits = append(waits, min(wait, w.Most))
	}
	return waits
}

func TestPromise8PoliciesAndTheirWaits(t *testing.T) {
	for _, tries := range policyEdges {
		for _, wait := range policyEdges {
			for _, factor := range policyEdges {
				for _, most := range policyEdges {
					w := policy(tries, wait, factor, most)
					valid := 1 <= tries && tries <= 20 && 0 <= wait && wait <= 10000 && 1 <= factor && factor <= 6 && 0 <= most && most <= 10000
					waits, ok := impl.WaitsOf(w)
					if impl.IsPolicy(w) != valid || ok != valid || !valid && len(waits) != 0 || valid && !slices.Equal(waits, waitsByRule(w)) {
						t.Fatal("policy", w, valid, waits, ok)
					}
				}
			}
		}
	}
	for tries := 1; tries <= 20; tries++ {
		for factor := 1; factor <= 6; factor++ {
			for _, wait := range []int{0, 1, 3, 50, 1666, 1667, 5000, 10000} {
				for most := 0; most <= 10000; most += 1 + wait%7 + most/3 {
					w := policy(tries, wait, factor, most)
					if waits, ok := impl.WaitsOf(w); !ok || !slices.Equal(waits, waitsByRule(w)) {
						t.Fatal("waits", w, waits, ok)
					}
				}
			}
		}
	}
}

func TestPromise8Waits(t *testing.T) {
	for _, all := range []struct {
		w    impl.Policy
		want []int
	}{
		{policy(1, 10, 2, 15), nil},
		{policy(2, 10, 2, 15), []int{10}},
		{policy(3, 10, 2, 15), []int{10, 15}},
		{policy(5, 3, 2, 100), []int{3, 6, 12, 24}},
		{policy(5, 3, 2, 24), []int{3, 6, 12, 24}},
		{policy(5, 3, 2, 23), []int{3, 6, 12, 23}},
		{policy(5, 3, 2, 12), []int{3, 6, 12, 12}},
		{policy(4, 7, 1, 100), []int{7, 7, 7}},
		{policy(4, 7, 1, 7), []int{7, 7, 7}},
		{policy(4, 0, 6, 100), []int{0, 0, 0}},
		{policy(4, 7, 6, 0), []int{0, 0, 0}},
		{policy(4, 0, 1, 0), []int{0, 0, 0}},
		// A Wait that is greater than Most.
		{policy(4, 8, 3, 7), []int{7, 7, 7}},
		{policy(4, 10000, 6, 1), []int{1, 1, 1}},
		{policy(4, 10000, 6, 9999), []int{9999, 9999, 9999}},
		{policy(4, 1667, 6, 10000), []int{1667, 10000, 10000}},
		{policy(4, 1666, 6, 10000), []int{1666, 9996, 10000}},
		{policy(20, 1, 6, 10000), append([]int{1, 6, 36, 216, 1296, 7776}, slices.Repeat([]int{10000}, 13)...)},
		{policy(20, 10000, 1, 10000), slices.Repeat([]int{10000}, 19)},
		{policy(21, 1, 1, 1), nil},
		{impl.Policy{}, nil},
	} {
		waits, ok := impl.WaitsOf(all.w)
		if valid := all.w.Tries == 1 || all.want != nil; ok != valid || !slices.Equal(waits, all.want) {
			t.Error("waits", all, waits, ok)
		}
	}
}

// toldRetry is what the functions of chapter 8 tell of retrying a function. No number of tries is
// enough if needed is 0.
type toldRetry struct {
	out               impl.Outcome
	made, sum, needed int
}

func sameToldRetry(a toldRetry, b toldRetry) bool {
	return sameOutcome(a.out, b.out) && a.made == b.made && a.sum == b.sum && a.needed == b.needed
}

// modelRetry tells of retrying what chapter 8 says, from as many tries as there may be at most.
func modelRetry(p impl.Program, f int, arg int, fuel int, w impl.Policy) toldRetry {
	var all toldRetry
	ended := false
	for i := range 20 {
		out, _ := modelOutcome(p, f, wrapped(arg+i), fuel)
		if i < w.Tries && !ended {
			all.out, all.made, all.sum = out, i+1, 0
			for _, wait := range waitsByRule(w)[:i] {
				all.sum += wait
			}
		}
		if out.Kind == impl.OutReturned && !ended {
			all.needed = i + 1
		}
		ended = ended || out.Kind == impl.OutReturned || out.Kind == impl.OutExited
	}
	return all
}

// checkRetry compares what is told of retrying with the model, and with what chapter 8 guarantees.
func checkRetry(t *testing.T, p impl.Program, f int, arg int, fuel int, w impl.Policy) toldRetry {
	t.Helper()
	var got toldRetry
	var one, two bool
	got.out, got.made, got.sum, one = impl.RetryRun(p, f, arg, fuel, w)
	got.needed, two = impl.TriesNeeded(p, f, arg, fuel)
	want := modelRetry(p, f, arg, fuel, w)
	if !one || two != (want.needed > 0) || !sameToldRetry(got, want) {
		t.Fatalf("retry %d of %s with %d and %d by %v: %v %t %t, not %v", f, textByRule(p), arg, fuel, w, got, one, two, want)
	}
	if two && got.needed <= w.Tries && (got.made != got.needed || got.out.Kind != impl.OutReturned) {
		t.Fatalf("as many tries as are needed: %d of %s with %d and %d by %v: %v", f, textByRule(p), arg, fuel, w, got)
	}
	if got.out.Kind != impl.OutReturned && got.out.Kind != impl.OutExited && got.made != w.Tries {
		t.Fatalf("less tries than there may be: %d of %s with %d and %d by %v: %v", f, textByRule(p), arg, fuel, w, got)
	}
	return got
}

// checkRetryIs compares retrying the function 0 with all that is to be told of it but the Trace.
func checkRetryIs(t *testing.T, name string, p impl.Program, arg int, fuel int, w impl.Policy, kind int, value int, want toldRetry) {
	t.Helper()
	got := checkRetry(t, p, 0, arg, fuel, w)
	if got.out.Kind != kind || got.out.Value != value || got.made != want.made || got.sum != want.sum || got.needed != want.needed {
		t.Errorf("%s: %v, not %d %d %v", name, got, kind, value, want)
	}
}

func TestPromise8RetriesAreAsTheModel(t *testing.T) {
	r := rand.New(rand.NewPCG(81, 8))
	var first, later, exits, panicking, spent int
	for i, p := range append(append(randomPrograms(81, 500), recoveringPrograms(81, 300)...), decidingPrograms(81, 1500)...) {
		for _, arg := range []int{edgeNumbers[i%len(edgeNumbers)], r.IntN(20) - 15} {
			w := policy(1+r.IntN(20), r.IntN(40), 1+r.IntN(6), r.IntN(300))
			f := r.IntN(len(p.Functions))
			switch all := checkRetry(t, p, f, arg, []int{200, 200, 60, 9, 4, 0}[r.IntN(6)], w); {
			case all.out.Kind == leaves:
				exits++
			case all.made == 1 && w.Tries > 1:
				first++
			case all.out.Kind == back:
				later++
			case all.out.Kind == panics:
				panicking++
			default:
				spent++
			}
		}
	}
	if min(first, later, exits, panicking, spent) < 100 {
		t.Error("the retries are too much alike", first, later, exits, panicking, spent)
	}
}

func TestPromise8Retries(t *testing.T) {
	// The waits of this Policy are 10, 20, 35 and 35.
	w := policy(5, 10, 2, 35)
	p := climbs(3)
	checkRetryIs(t, "the first try returns", p, 3, 200, w, back, 3, toldRetry{made: 1, needed: 1})
	checkRetryIs(t, "the second one", p, 2, 200, w, back, 3, toldRetry{made: 2, sum: 10, needed: 2})
	checkRetryIs(t, "the third one", p, 1, 200, w, back, 3, toldRetry{made: 3, sum: 30, needed: 3})
	checkRetryIs(t, "the fourth one", p, 0, 200, w, back, 3, toldRetry{made: 4, sum: 65, needed: 4})
	checkRetryIs(t, "the last one", p, -1, 200, w, back, 3, toldRetry{made: 5, sum: 100, needed: 5})
	checkRetryIs(t, "none", p, -2, 200, w, panics, 2, toldRetry{made: 5, sum: 100, needed: 6})
	checkRetryIs(t, "none at all", p, -100, 200, w, panics, -96, toldRetry{made: 5, sum: 100})
	checkRetryIs(t, "all are spent", p, 3, 3, w, stops, 0, toldRetry{made: 5, sum: 100})
	checkRetryIs(t, "just not spent", p, 3, 4, w, back, 3, toldRetry{made: 1, needed: 1})
	checkRetryIs(t, "without fuel", p, 3, 0, w, stops, 0, toldRetry{made: 5, sum: 100})
	checkRetryIs(t, "nothing to do", program(nil), 3, 0, w, back, 0, toldRetry{made: 1, needed: 1})
	// The Outcome is that of the last try alone.
	o, made, _, ok := impl.RetryRun(program(body(jump(3, 0), set(2, 9), throw(2), say(0), give(0))), 0, -1, 200, w)
	if !ok || made != 3 || !sameOutcome(o, returned(1, 3, called(0, 1), says(0, 1), returns(0, 1))) {
		t.Error("the last try", o, made, ok)
	}
	// What a run recovers is no panic by which it ends.
	checkRetryIs(t, "recovered", program(body(later(1, 0), throw(0)), body(save(0))), 3, 200, w, back, 0, toldRetry{made: 1, needed: 1})
}

func TestPromise8SingleTriesAndMaxTries(t *testing.T) {
	one, most := policy(1, 10, 2, 15), policy(20, 10000, 6, 10000)
	for arg := -25; arg <= 5; arg++ {
		p, needed := climbs(3), 4-arg
		switch {
		case arg >= 3:
			checkRetryIs(t, "a single one returns", p, arg, 200, one, back, arg, toldRetry{made: 1, needed: 1})
			checkRetryIs(t, "one of as many as there may be", p, arg, 200, most, back, arg, toldRetry{made: 1, needed: 1})
		case needed <= 20:
			checkRetryIs(t, "a single one panics", p, arg, 200, one, panics, arg, toldRetry{made: 1, needed: needed})
			checkRetryIs(t, "as many as are needed", p, arg, 200, most, back, 3, toldRetry{made: needed, sum: 10000 * (needed - 1), needed: needed})
		default:
			checkRetryIs(t, "a single one of too many", p, arg, 200, one, panics, arg, toldRetry{made: 1})
			checkRetryIs(t, "as many as there may be", p, arg, 200, most, panics, arg+19, toldRetry{made: 20, sum: 190000})
		}
	}
	checkRetryIs(t, "a single one exits", mixed(), 1, 200, one, leaves, 0, toldRetry{made: 1})
	checkRetryIs(t, "a single one is spent", mixed(), 3, 200, one, stops, 0, toldRetry{made: 1})
	checkRetryIs(t, "all of them are spent", mixed(), 3, 200, most, stops, 0, toldRetry{made: 20, sum: 190000})
	checkRetryIs(t, "without waits", climbs(3), -16, 200, policy(20, 0, 6, 10000), back, 3, toldRetry{made: 20, needed: 20})
	checkRetryIs(t, "without a Most", climbs(3), -16, 200, policy(20, 10000, 6, 0), back, 3, toldRetry{made: 20, needed: 20})
}

func TestPromise8TriesThatExit(t *testing.T) {
	w := policy(20, 1, 2, 100)
	checkRetryIs(t, "at once", mixed(), 1, 200, w, leaves, 0, toldRetry{made: 1})
	checkRetryIs(t, "behind one that panics", mixed(), 0, 200, w, leaves, 0, toldRetry{made: 2, sum: 1})
	checkRetryIs(t, "behind more", mixed(), -3, 200, w, leaves, 0, toldRetry{made: 5, sum: 15})
	checkRetryIs(t, "the last one", mixed(), -18, 200, w, leaves, 0, toldRetry{made: 20, sum: 1327})
	checkRetryIs(t, "one behind the last one", mixed(), -19, 200, w, panics, 0, toldRetry{made: 20, sum: 1327})
	// With less fuel, it is spent where it would exit, and so is each other try that does not panic.
	checkRetryIs(t, "spent before", mixed(), -1, 5, w, stops, 0, toldRetry{made: 20, sum: 1327})
	checkRetryIs(t, "just not spent", mixed(), -1, 6, w, leaves, 0, toldRetry{made: 3, sum: 3})
	// A try that exits is the last one, though the next one would return.
	checkRetryIs(t, "ahead of one that returns", program(body(jump(2, 0), exit(), give(0))), 0, 200, w, leaves, 0, toldRetry{made: 1})
	checkRetryIs(t, "behind one that returns", program(body(jump(3, 0), set(2, 7), give(2), exit())), 0, 200, w, back, 7, toldRetry{made: 1, needed: 1})
}

func TestPromise8SpentTriesGoOn(t *testing.T) {
	// Behind two tries that go round and round comes one that returns.
	w := policy(4, 5, 3, 100)
	p := program(body(set(2, 1), jump(3, 0), jump(2, 2), give(0)))
	checkRetryIs(t, "for all fuels", p, -1, 200, w, back, 1, toldRetry{made: 3, sum: 20, needed: 3})
	checkRetryIs(t, "too deep", program(body(jump(2, 0), call(0, 0), give(0))), -1, 200, w, back, 1, toldRetry{made: 3, sum: 20, needed: 3})
	checkRetryIs(t, "all", p, -9, 200, w, stops, 0, toldRetry{made: 4, sum: 65, needed: 11})
}

func TestPromise8ArgumentsWrapAroundBetweenTries(t *testing.T) {
	w := policy(20, 1, 1, 1)
	// It returns its argument if that is at most 0.
	p := program(body(jump(2, 0), give(0), throw(0)))
	checkRetryIs(t, "the greatest one", p, 32767, 200, w, back, -32768, toldRetry{made: 2, sum: 1, needed: 2})
	checkRetryIs(t, "the one before", p, 32766, 200, w, back, -32768, toldRetry{made: 3, sum: 2, needed: 3})
	checkRetryIs(t, "by the last try", p, 32749, 200, w, back, -32768, toldRetry{made: 20, sum: 19, needed: 20})
	checkRetryIs(t, "by one try more", p, 32748, 200, w, panics, 32767, toldRetry{made: 20, sum: 19})
	checkRetryIs(t, "the least one", p, -32768, 200, w, back, -32768, toldRetry{made: 1, needed: 1})
	// It panics with the first ones behind the wrap, too.
	checkRetryIs(t, "one behind the least one", climbsBehind(-32767), 32767, 200, w, back, -32767, toldRetry{made: 3, sum: 2, needed: 3})
	checkRetryIs(t, "far behind it", climbsBehind(-32750), 32767, 200, w, back, -32750, toldRetry{made: 20, sum: 19, needed: 20})
	checkRetryIs(t, "too far behind it", climbsBehind(-32749), 32767, 200, w, panics, -32750, toldRetry{made: 20, sum: 19})
}

func TestPromise8EachRunBeginsWithTheSharedNumberZero(t *testing.T) {
	// It returns if the shared number is greater than 0, and panics if not, with 1 left for others.
	p := program(body(take(2), jump(5, 2), set(3, 1), keep(3), throw(0), give(0)), body(set(2, 1), keep(2), give(0)))
	checkRetryIs(t, "tries", p, 3, 200, policy(20, 0, 1, 0), panics, 22, toldRetry{made: 20})
	if arg, ok := impl.FirstGood(p, 0, 3, 103, 200); ok || arg != 0 {
		t.Error("arguments", arg, ok)
	}
	checkDeedsAre(t, "deeds", p, []impl.Deed{deed(1, 0), deed(1, 0), deed(0, 1)}, 3, 200, toldDeeds{done: 2, last: 3, backs: []int{1, 0}, stuck: []int{1, 0}})
	checkKeeperIs(t, "jobs", p, []int{1, 2, 3}, 200, watch(20, 1000), toldKeeper{kinds: []int{panics, panics, panics}, clock: 15, fails: []int{5, 10, 15}, least: 3})
}

func TestPromise8TriesNeededIsTheLeastTriesOfAPolicy(t *testing.T) {
	for i, p := range append(decidingPrograms(82, 300), climbs(19), climbs(20), mixed()) {
		for _, arg := range []int{-19, -18, -2, 0, edgeNumbers[i%len(edgeNumbers)]} {
			least := 0
			for tries := 20; tries >= 1; tries-- {
				if o, _, _, ok := impl.RetryRun(p, 0, arg, 200, policy(tries, 3, 2, 9)); ok && o.Kind == impl.OutReturned {
					least = tries
				}
			}
			if needed, ok := impl.TriesNeeded(p, 0, arg, 200); needed != least || ok != (least > 0) {
				t.Fatalf("needs %s with %d: %d %t, not %d", textByRule(p), arg, needed, ok, least)
			}
		}
	}
}

// checkFirstGood compares the least argument of a range with which a run returns with the model.
func checkFirstGood(t *testing.T, p impl.Program, f int, low int, high int, fuel int) (int, bool) {
	t.Helper()
	want, found := 0, false
	for arg := high; arg >= low; arg-- {
		if o, _ := modelOutcome(p, f, arg, fuel); o.Kind == impl.OutReturned {
			want, found = arg, true
		}
	}
	got, ok := impl.FirstGood(p, f, low, high, fuel)
	if got != want || ok != found {
		t.Fatalf("%d of %s from %d to %d with %d: %d %t, not %d %t", f, textByRule(p), low, high, fuel, got, ok, want, found)
	}
	return got, ok
}

func TestPromise8FirstGoodIsThatOfTheModel(t *testing.T) {
	var first, between, none int
	for i, p := range append(randomPrograms(83, 200), decidingPrograms(83, 800)...) {
		for f := range p.Functions {
			low := []int{-8, -3, -32768, 32750, edgeNumbers[i%len(edgeNumbers)] / 2}[(i+f)%5]
			switch arg, ok := checkFirstGood(t, p, f, low, low+i%17, []int{200, 60, 7}[i%3]); {
			case !ok:
				none++
			case arg == low:
				first++
			default:
				between++
			}
		}
	}
	if min(first, between, none) < 100 {
		t.Error("the ranges are too much alike", first, between, none)
	}
}

func TestPromise8FirstGood(t *testing.T) {
	for _, all := range []struct {
		p               impl.Program
		low, high, fuel int
		want            int
		ok              bool
	}{
		// Ranges of one argument.
		{climbs(3), 2, 2, 200, 0, false},
		{climbs(3), 3, 3, 200, 3, true},
		{climbs(3), 3, 3, 3, 0, false},
		{climbs(3), 3, 3, 4, 3, true},
		{program(nil), -32768, -32768, 0, -32768, true},
		{program(nil), 32767, 32767, 0, 32767, true},
		{climbs(0), 0, 0, 200, 0, true},
		// Ranges of MaxRange + 1 arguments, and of one more.
		{climbs(3), -97, 3, 200, 3, true},
		{climbs(3), -98, 2, 200, 0, false},
		{climbs(3), -98, 3, 200, 0, false},
		{climbs(3), 3, 103, 200, 3, true},
		{climbs(3), 3, 104, 200, 0, false},
		{climbs(-50), -50, 50, 200, -50, true},
		{climbs(-49), -50, 50, 200, -49, true},
		{climbs(50), -50, 50, 200, 50, true},
		{climbs(51), -50, 50, 200, 0, false},
		{climbs(0), -50, 50, 200, 0, true},
		{program(nil), 32667, 32767, 0, 32667, true},
		{program(nil), -32768, -32668, 0, -32768, true},
		{program(nil), -32768, -32667, 0, 0, false},
		// Those that exit or are spent are not among them.
		{mixed(), 1, 50, 200, 2, true},
		{mixed(), 0, 1, 200, 0, false},
		{mixed(), 3, 50, 200, 0, false},
		{mixed(), -50, 50, 7, 0, false},
		{mixed(), -50, 50, 8, 2, true},
		// A low that is greater than high.
		{program(nil), 4, 3, 200, 0, false},
		{program(nil), 32767, -32768, 200, 0, false},
	} {
		if arg, ok := impl.FirstGood(all.p, 0, all.low, all.high, all.fuel); arg != all.want || ok != all.ok {
			t.Error("first good", textByRule(all.p), all.low, all.high, all.fuel, arg, ok)
		}
	}
}

func TestPromise8RangesRefuseOthers(t *testing.T) {
	p := program(nil, nil)
	for _, low := range rangeEnds {
		for _, high := range rangeEnds {
			for _, f := range []int{math.MinInt, -1, 0, 1, 2, math.MaxInt} {
				for _, fuel := range []int{math.MinInt, -1, 0, 1, 200, 201, math.MaxInt} {
					valid := validRange(low, high) && (f == 0 || f == 1) && 0 <= fuel && fuel <= 200
					want := 0
					if valid {
						want = low
					}
					if arg, ok := impl.FirstGood(p, f, low, high, fuel); ok != valid || arg != want {
						t.Error("range", f, low, high, fuel, arg, ok)
					}
				}
			}
		}
	}
}

func TestPromise8RetriesRefuseOthers(t *testing.T) {
	p := program(nil, body(throw(0)))
	good, bad := policy(3, 10, 2, 15), []impl.Policy{{}, policy(0, 10, 2, 15), policy(-1, 10, 2, 15), policy(21, 10, 2, 15), policy(3, -1, 2, 15), policy(3, 10001, 2, 15),
		policy(3, 10, 0, 15), policy(3, 10, -1, 15), policy(3, 10, 7, 15), policy(3, 10, 2, -1), policy(3, 10, 2, 10001),
		policy(math.MaxInt, 10, 2, 15), policy(math.MinInt, 10, 2, 15), policy(3, math.MaxInt, math.MaxInt, math.MaxInt), policy(3, 10, 2, math.MinInt)}
	for _, f := range []int{math.MinInt, -1, 0, 1, 2, 6, 1 << 32, math.MaxInt} {
		for _, arg := range []int{math.MinInt, -32769, -32768, 0, 32767, 32768, 65536, math.MaxInt} {
			for _, fuel := range []int{math.MinInt, -1, 0, 4, 200, 201, 1 << 32, math.MaxInt} {
				valid := (f == 0 || f == 1) && -32768 <= arg && arg <= 32767 && 0 <= fuel && fuel <= 200
				if valid {
					checkRetry(t, p, f, arg, fuel, good)
				} else {
					checkNoRetry(t, p, f, arg, fuel, good)
					if needed, ok := impl.TriesNeeded(p, f, arg, fuel); ok || needed != 0 {
						t.Error("tries needed", f, arg, fuel, needed, ok)
					}
				}
				for _, w := range bad {
					checkNoRetry(t, p, f, arg, fuel, w)
				}
			}
		}
	}
}

// checkNoRetry checks that retrying fails.
func checkNoRetry(t *testing.T, p impl.Program, f int, arg int, fuel int, w impl.Policy) {
	t.Helper()
	if o, made, sum, ok := impl.RetryRun(p, f, arg, fuel, w); ok || made != 0 || sum != 0 || !sameOutcome(o, impl.Outcome{}) {
		t.Error("retries", f, arg, fuel, w, o, made, sum, ok)
	}
}

// toldDeeds is what the functions of chapter 8 tell of Deeds that are carried out.
type toldDeeds struct {
	done, last   int
	backs, stuck []int
}

func sameToldDeeds(a toldDeeds, b toldDeeds) bool {
	return a.done == b.done && a.last == b.last && slices.Equal(a.backs, b.backs) && slices.Equal(a.stuck, b.stuck)
}

// carry does the Deeds of a list from one on, as chapter 8 says it, and reports whether all of them
// are done; if not, this one is taken back behind those that it was done ahead of.
func (all *toldDeeds) carry(p impl.Program, list []impl.Deed, n int, arg int, fuel int) bool {
	if n == len(list) {
		return true
	}
	o, _ := modelOutcome(p, list[n].Do, arg, fuel)
	if o.Kind != impl.OutReturned {
		return false
	}
	all.done, all.last = n+1, o.Value
	if all.carry(p, list, n+1, o.Value, fuel) {
		return true
	}
	all.backs = append(all.backs, n)
	if back, _ := modelOutcome(p, list[n].Back, o.Value, fuel); back.Kind != impl.OutReturned {
		all.stuck = append(all.stuck, n)
	}
	return false
}

// tellDeeds asks all functions of chapter 8 that tell of Deeds.
func tellDeeds(p impl.Program, list []impl.Deed, arg int, fuel int) (toldDeeds, [2]bool) {
	var all toldDeeds
	var ok [2]bool
	all.done, all.last, all.backs, ok[0] = impl.CarryOut(p, list, arg, fuel)
	all.stuck, ok[1] = impl.StuckDeeds(p, list, arg, fuel)
	return all, ok
}

// checkDeeds compares what is told of Deeds with the model, and with what chapter 8 guarantees.
func checkDeeds(t *testing.T, p impl.Program, list []impl.Deed, arg int, fuel int) toldDeeds {
	t.Helper()
	got, ok := tellDeeds(p, list, arg, fuel)
	var want toldDeeds
	want.carry(p, list, 0, arg, fuel)
	if ok != [2]bool{true, true} || !sameToldDeeds(got, want) {
		t.Fatalf("%v of %s with %d and %d: %v %v, not %v", list, textByRule(p), arg, fuel, got, ok, want)
	}
	taken := numbers(0, got.done-1)
	slices.Reverse(taken)
	if got.done == len(list) && len(got.backs) != 0 || got.done < len(list) && !slices.Equal(got.backs, taken) {
		t.Fatalf("all or nothing: %v of %s with %d and %d: %v", list, textByRule(p), arg, fuel, got)
	}
	return got
}

// checkDeedsAre compares Deeds with all that is to be told of them.
func checkDeedsAre(t *testing.T, name string, p impl.Program, list []impl.Deed, arg int, fuel int, want toldDeeds) {
	t.Helper()
	if got := checkDeeds(t, p, list, arg, fuel); !sameToldDeeds(got, want) {
		t.Errorf("%s: %v, not %v", name, got, want)
	}
}

// randomDeeds returns Deeds of a Program.
func randomDeeds(r *rand.Rand, p impl.Program) []impl.Deed {
	list := make([]impl.Deed, r.IntN(impl.MaxDeeds+1))
	for i := range list {
		list[i] = deed(r.IntN(len(p.Functions)), r.IntN(len(p.Functions)))
	}
	return list
}

func TestPromise8DeedsAreAsTheModel(t *testing.T) {
	r := rand.New(rand.NewPCG(84, 8))
	var none, done, taken, stuck int
	for i, p := range append(append(randomPrograms(84, 700), recoveringPrograms(84, 300)...), decidingPrograms(84, 2500)...) {
		for _, arg := range []int{r.IntN(9) - 4, edgeNumbers[i%len(edgeNumbers)]} {
			switch all := checkDeeds(t, p, randomDeeds(r, p), arg, []int{200, 200, 40, 6, 4}[r.IntN(5)]); {
			case len(all.stuck) > 0 && len(all.stuck) < len(all.backs):
				stuck++
			case len(all.backs) > 1:
				taken++
			case all.done > 1:
				done++
			default:
				none++
			}
		}
	}
	if min(none, done, taken, stuck) < 200 {
		t.Error("the deeds are too much alike", none, done, taken, stuck)
	}
}

func TestPromise8EachFewDeedsAreAsTheModel(t *testing.T) {
	// What is greater by 1 each time returns up to 5; the others panic, exit, and spend all.
	p := program(body(set(3, -4), add(3, 0), jump(6, 3), set(2, 1), add(0, 2), give(0), throw(0)), body(throw(0)), body(exit()), body(set(2, 1), jump(1, 2)))
	var choice []impl.Deed
	for do := range p.Functions {
		for back := range p.Functions {
			choice = append(choice, deed(do, back))
		}
	}
	for _, list := range append(listsOf(choice, 3), nil) {
		for arg := 1; arg <= 5; arg += 2 {
			checkDeeds(t, p, list, arg, 60)
		}
	}
}

// steps returns a Program of five functions: 0 returns its argument and 1 more, 1 returns its
// argument, 2 panics with it, 3 exits, and 4 spends all.
func steps() impl.Program {
	return program(body(set(2, 1), add(0, 2), give(0)), body(give(0)), body(throw(0)), body(exit()), body(set(2, 1), jump(1, 2)))
}

func TestPromise8NoDeeds(t *testing.T) {
	for _, arg := range edgeNumbers {
		for _, fuel := range []int{0, 1, 200} {
			checkDeedsAre(t, "none", steps(), nil, arg, fuel, toldDeeds{})
			checkDeedsAre(t, "none at all", program(nil), []impl.Deed{}, arg, fuel, toldDeeds{})
		}
	}
	// Without Deeds, a Program, an argument and a fuel are to be valid all the same.
	for i, p := range invalidPrograms() {
		if all, ok := tellDeeds(p, nil, 0, 9); ok != [2]bool{} || !sameToldDeeds(all, toldDeeds{}) {
			t.Error("no deeds of no program", i, all, ok)
		}
	}
	for _, run := range [][2]int{{32768, 9}, {-32769, 9}, {0, -1}, {0, 201}, {math.MaxInt, math.MaxInt}, {math.MinInt, math.MinInt}} {
		if all, ok := tellDeeds(steps(), nil, run[0], run[1]); ok != [2]bool{} || !sameToldDeeds(all, toldDeeds{}) {
			t.Error("no deeds with no argument or fuel", run, all, ok)
		}
	}
}

func TestPromise8Deeds(t *testing.T) {
	p := steps()
	one := deed(0, 1)
	checkDeedsAre(t, "one", p, []impl.Deed{one}, 5, 200, toldDeeds{done: 1, last: 6})
	checkDeedsAre(t, "three", p, []impl.Deed{one, one, one}, 5, 200, toldDeeds{done: 3, last: 8})
	checkDeedsAre(t, "with a result that wraps around", p, []impl.Deed{one, one}, 32766, 200, toldDeeds{done: 2, last: -32768})
	checkDeedsAre(t, "with a result of 0", p, []impl.Deed{one, one}, -2, 200, toldDeeds{done: 2})
	checkDeedsAre(t, "whose Backs are not run", p, []impl.Deed{deed(0, 2), deed(0, 3), deed(0, 4)}, 5, 200, toldDeeds{done: 3, last: 8})
	// One that does not return is not done, and not taken back.
	for f := 2; f <= 4; f++ {
		bad := deed(f, 1)
		checkDeedsAre(t, "alone", p, []impl.Deed{bad}, 5, 200, toldDeeds{})
		checkDeedsAre(t, "the first one", p, []impl.Deed{bad, one, one}, 5, 200, toldDeeds{})
		checkDeedsAre(t, "one between", p, []impl.Deed{one, bad, one}, 5, 200, toldDeeds{done: 1, last: 6, backs: []int{0}})
		checkDeedsAre(t, "the last one", p, []impl.Deed{one, one, bad}, 5, 200, toldDeeds{done: 2, last: 7, backs: []int{1, 0}})
		checkDeedsAre(t, "two of them", p, []impl.Deed{one, bad, bad, one}, 5, 200, toldDeeds{done: 1, last: 6, backs: []int{0}})
		checkDeedsAre(t, "whose own Back would not return", p, []impl.Deed{one, deed(f, f)}, 5, 200, toldDeeds{done: 1, last: 6, backs: []int{0}})
	}
	// The same one, which does not return a third time, for its fuel or for its argument.
	checkDeedsAre(t, "less fuel than it takes", p, []impl.Deed{deed(1, 1), one}, 5, 2, toldDeeds{done: 1, last: 5, backs: []int{0}})
	rises := program(body(set(2, -6), add(2, 0), jump(6, 2), set(3, 1), add(0, 3), give(0), throw(0)), nil)
	checkDeedsAre(t, "greater and greater", rises, []impl.Deed{one, one, one, one}, 5, 200, toldDeeds{done: 2, last: 7, backs: []int{1, 0}})
	// Each run has the whole fuel anew.
	checkDeedsAre(t, "just the fuel", p, slices.Repeat([]impl.Deed{one}, 7), 5, 3, toldDeeds{done: 7, last: 12})
}

func TestPromise8BacksThatDoNotReturn(t *testing.T) {
	p := steps()
	bad := deed(2, 1)
	for f := 2; f <= 4; f++ {
		checkDeedsAre(t, "alone", p, []impl.Deed{deed(0, f), bad}, 5, 200, toldDeeds{done: 1, last: 6, backs: []int{0}, stuck: []int{0}})
		checkDeedsAre(t, "the first one", p, []impl.Deed{deed(0, f), deed(0, 1), deed(0, 1), bad}, 5, 200, toldDeeds{done: 3, last: 8, backs: []int{2, 1, 0}, stuck: []int{0}})
		checkDeedsAre(t, "one between", p, []impl.Deed{deed(0, 1), deed(0, f), deed(0, 1), bad}, 5, 200, toldDeeds{done: 3, last: 8, backs: []int{2, 1, 0}, stuck: []int{1}})
		checkDeedsAre(t, "the last one", p, []impl.Deed{deed(0, 1), deed(0, 1), deed(0, f), bad}, 5, 200, toldDeeds{done: 3, last: 8, backs: []int{2, 1, 0}, stuck: []int{2}})
		checkDeedsAre(t, "all but one", p, []impl.Deed{deed(0, f), deed(0, 1), deed(0, f), bad}, 5, 200, toldDeeds{done: 3, last: 8, backs: []int{2, 1, 0}, stuck: []int{2, 0}})
	}
	checkDeedsAre(t, "all of them", p, []impl.Deed{deed(0, 2), deed(0, 3), deed(0, 4), bad}, 5, 200, toldDeeds{done: 3, last: 8, backs: []int{2, 1, 0}, stuck: []int{2, 1, 0}})
	// A Back is run with the result of its own Do: that of these Deeds returns with 6 alone.
	six := program(body(set(2, 1), add(0, 2), give(0)), body(set(2, -5), add(2, 0), jump(4, 2), exit(), set(2, -6), add(2, 0), jump(3, 2)), body(throw(0)))
	for arg, want := range map[int][]int{3: {1, 0}, 4: {2, 0}, 5: {2, 1}, 6: {2, 1, 0}, 2: {2, 1, 0}} {
		checkDeedsAre(t, "their results", six, []impl.Deed{deed(0, 1), deed(0, 1), deed(0, 1), deed(2, 1)}, arg, 200, toldDeeds{done: 3, last: arg + 3, backs: []int{2, 1, 0}, stuck: want})
	}
}

func TestPromise8MaxDeedsAndMore(t *testing.T) {
	p := steps()
	full := slices.Repeat([]impl.Deed{deed(0, 1)}, 8)
	checkDeedsAre(t, "as many as there may be", p, full, 5, 200, toldDeeds{done: 8, last: 13})
	for n := range full {
		list := slices.Clone(full)
		list[n].Do = 2
		want := toldDeeds{done: n, backs: numbers(0, n-1)}
		slices.Reverse(want.backs)
		if n > 0 {
			want.last = 5 + n
		}
		checkDeedsAre(t, "all of which but one return", p, list, 5, 200, want)
	}
	for _, size := range []int{9, 10, 1 << 20} {
		if all, ok := tellDeeds(p, slices.Repeat([]impl.Deed{deed(0, 1)}, size), 5, 200); ok != [2]bool{} || !sameToldDeeds(all, toldDeeds{}) {
			t.Error("more than MaxDeeds", size, all, ok)
		}
	}
}

func TestPromise8DeedsRefuseOthers(t *testing.T) {
	p := steps()
	// A function that is none counts wherever it is, also behind a Deed that does not return.
	for _, f := range []int{math.MinInt, -1, 5, 6, 1 << 32, math.MaxInt} {
		for n := range 4 {
			for _, bad := range []impl.Deed{deed(f, 1), deed(0, f), deed(f, f)} {
				for _, first := range []impl.Deed{deed(0, 1), deed(2, 1)} {
					list := slices.Insert([]impl.Deed{first, deed(0, 1), deed(0, 1)}, n, bad)
					if all, ok := tellDeeds(p, list, 5, 200); ok != [2]bool{} || !sameToldDeeds(all, toldDeeds{}) {
						t.Error("no function", list, all, ok)
					}
				}
			}
		}
	}
	for _, arg := range []int{math.MinInt, -32769, -32768, 0, 32767, 32768, 65536, math.MaxInt} {
		for _, fuel := range []int{math.MinInt, -1, 0, 4, 200, 201, 1 << 32, math.MaxInt} {
			list := []impl.Deed{deed(0, 1), deed(2, 1)}
			if -32768 <= arg && arg <= 32767 && 0 <= fuel && fuel <= 200 {
				checkDeeds(t, p, list, arg, fuel)
				continue
			}
			if all, ok := tellDeeds(p, list, arg, fuel); ok != [2]bool{} || !sameToldDeeds(all, toldDeeds{}) {
				t.Error("no argument or fuel", arg, fuel, all, ok)
			}
		}
	}
}

// toldKeeper is what the functions of chapter 8 tell of a keeper. least is the least Limit with
// which it does not give up.
type toldKeeper struct {
	kinds []int
	clock int
	gives bool
	fails []int
	least int
}

func sameToldKeeper(a toldKeeper, b toldKeeper) bool {
	return slices.Equal(a.kinds, b.kinds) && a.clock == b.clock && a.gives == b.gives && slices.Equal(a.fails, b.fails) && a.least == b.least
}

// tellKeeper asks all functions of chapter 8 that tell of a keeper.
func tellKeeper(p impl.Program, f int, jobs []int, fuel int, w impl.Watch) (toldKeeper, [3]bool) {
	var all toldKeeper
	var ok [3]bool
	all.kinds, all.clock, all.gives, ok[0] = impl.KeepRunning(p, f, jobs, fuel, w)
	all.fails, ok[1] = impl.FailTimes(p, f, jobs, fuel, w)
	all.least, ok[2] = impl.LeastLimit(p, f, jobs, fuel, w.Span)
	return all, ok
}

// modelKeeper tells of a keeper what chapter 8 says. It makes all runs, and tells of those up to
// that behind which the keeper gives up.
func modelKeeper(p impl.Program, f int, jobs []int, fuel int, w impl.Watch) toldKeeper {
	var all toldKeeper
	var failed []int
	clock := 0
	for _, job := range jobs {
		o, _ := modelOutcome(p, f, job, fuel)
		clock += o.Spent
		told := !all.gives
		if told {
			all.kinds, all.clock = append(all.kinds, o.Kind), clock
		}
		if o.Kind == impl.OutReturned || o.Kind == impl.OutExited {
			continue
		}
		failed = append(failed, clock)
		if told {
			all.fails = slices.Clone(failed)
		}
		// Times only grow, so those within the Span are the last ones.
		inside := len(failed)
		for inside > 0 && failed[len(failed)-inside] <= clock-w.Span {
			inside--
		}
		all.gives = all.gives || inside > w.Limit
		all.least = max(all.least, inside)
	}
	return all
}

// checkKeeper compares what is told of a keeper with the model, and with what chapter 8 guarantees.
func checkKeeper(t *testing.T, p impl.Program, f int, jobs []int, fuel int, w impl.Watch) toldKeeper {
	t.Helper()
	got, ok := tellKeeper(p, f, jobs, fuel, w)
	want := modelKeeper(p, f, jobs, fuel, w)
	if ok != [3]bool{true, true, true} || !sameToldKeeper(got, want) {
		t.Fatalf("%d of %s with %v and %d by %v: %v %v, not %v", f, textByRule(p), jobs, fuel, w, got, ok, want)
	}
	if got.gives != (got.least > w.Limit) || !got.gives && len(got.kinds) != len(jobs) {
		t.Fatalf("gives up: %d of %s with %v and %d by %v: %v", f, textByRule(p), jobs, fuel, w, got)
	}
	if kinds, _, gives, ok := impl.KeepRunning(p, f, jobs, fuel, watch(20, w.Span)); !ok || gives || len(kinds) != len(jobs) {
		t.Fatalf("gives up with MaxTries: %d of %s with %v and %d by %v: %v", f, textByRule(p), jobs, fuel, w, kinds)
	}
	return got
}

// checkKeeperIs compares a keeper of the function 0 with all that is to be told of it.
func checkKeeperIs(t *testing.T, name string, p impl.Program, jobs []int, fuel int, w impl.Watch, want toldKeeper) {
	t.Helper()
	if got := checkKeeper(t, p, 0, jobs, fuel, w); !sameToldKeeper(got, want) {
		t.Errorf("%s: %v, not %v", name, got, want)
	}
}

// randomJobs returns jobs, most of which are small numbers.
func randomJobs(r *rand.Rand) []int {
	jobs := make([]int, r.IntN(impl.MaxJobs+1))
	for i := range jobs {
		jobs[i] = r.IntN(11) - 5
		if r.IntN(9) == 0 {
			jobs[i] = edgeNumbers[r.IntN(len(edgeNumbers))]
		}
	}
	return jobs
}

func TestPromise8KeepersAreAsTheModel(t *testing.T) {
	r := rand.New(rand.NewPCG(85, 8))
	var early, late, edge, on, fine int
	for _, p := range append(append(randomPrograms(85, 500), recoveringPrograms(85, 200)...), decidingPrograms(85, 2000)...) {
		for f := range p.Functions {
			jobs := randomJobs(r)
			w := watch(r.IntN(5), []int{0, 1, 4, 5, 8, 12, 20, 60, 200, 1000}[r.IntN(10)])
			if r.IntN(4) == 0 {
				w = watch(r.IntN(21), r.IntN(1001))
			}
			switch all := checkKeeper(t, p, f, jobs, []int{200, 200, 50, 7, 3}[r.IntN(5)], w); {
			case all.gives && len(all.kinds) < len(jobs):
				early++
			case all.gives:
				late++
			case all.least == w.Limit && w.Limit > 0:
				edge++
			case len(all.fails) > w.Limit:
				on++
			default:
				fine++
			}
		}
	}
	if min(early, late, edge, on, fine) < 200 {
		t.Error("the keepers are too much alike", early, late, edge, on, fine)
	}
}

func TestPromise8LeastLimitIsTheLeastOne(t *testing.T) {
	r := rand.New(rand.NewPCG(86, 8))
	for _, p := range append(decidingPrograms(86, 300), mixed(), climbs(0)) {
		jobs, span := randomJobs(r), []int{0, 1, 4, 5, 9, 20, 200, 1000}[r.IntN(8)]
		want := 0
		for limit := 20; limit >= 0; limit-- {
			if _, _, gives, ok := impl.KeepRunning(p, 0, jobs, 200, watch(limit, span)); ok && !gives {
				want = limit
			}
		}
		if least, ok := impl.LeastLimit(p, 0, jobs, 200, span); !ok || least != want {
			t.Fatalf("least limit of %s with %v and %d: %d %t, not %d", textByRule(p), jobs, span, least, ok, want)
		}
	}
}

func TestPromise8Keepers(t *testing.T) {
	p := mixed()
	jobs := []int{0, 1, 2, 3, 0}
	kinds := []int{panics, leaves, back, stops, panics}
	all := toldKeeper{kinds: kinds, clock: 218, fails: []int{2, 216, 218}, least: 3}
	checkKeeperIs(t, "all kinds of runs", p, jobs, 200, watch(3, 1000), all)
	checkKeeperIs(t, "gives up behind the last one", p, jobs, 200, watch(2, 1000), toldKeeper{kinds: kinds, clock: 218, gives: true, fails: []int{2, 216, 218}, least: 3})
	checkKeeperIs(t, "gives up behind the second one that fails", p, jobs, 200, watch(1, 1000), toldKeeper{kinds: kinds[:4], clock: 216, gives: true, fails: []int{2, 216}, least: 3})
	checkKeeperIs(t, "gives up behind the first one", p, jobs, 200, watch(0, 1000), toldKeeper{kinds: kinds[:1], clock: 2, gives: true, fails: []int{2}, least: 3})
	// With less fuel, those that would exit or return fail too.
	checkKeeperIs(t, "less fuel", p, jobs, 5, watch(20, 1000), toldKeeper{kinds: []int{panics, stops, stops, stops, panics}, clock: 19, fails: []int{2, 7, 12, 17, 19}, least: 5})
	checkKeeperIs(t, "just the fuel for one", p, jobs, 6, watch(20, 1000), toldKeeper{kinds: []int{panics, leaves, stops, stops, panics}, clock: 22, fails: []int{2, 14, 20, 22}, least: 4})
	// Jobs may be the same again, and their runs are the same then.
	checkKeeperIs(t, "the same again", p, []int{2, 2, 2}, 200, watch(0, 1000), toldKeeper{kinds: []int{back, back, back}, clock: 24})
	checkKeeperIs(t, "of the least and greatest numbers", p, []int{-32768, 32767}, 200, watch(2, 1000), toldKeeper{kinds: []int{panics, stops}, clock: 202, fails: []int{2, 202}, least: 2})
	checkKeeperIs(t, "exits alone", p, []int{1, 1, 1}, 200, watch(0, 1000), toldKeeper{kinds: []int{leaves, leaves, leaves}, clock: 18})
	// The first ones may be forgotten behind others, which then are within one Span.
	checkKeeperIs(t, "more at the end", p, []int{0, 2, 2, 0, 0, 0}, 200, watch(2, 16), toldKeeper{kinds: []int{panics, back, back, panics, panics, panics}, clock: 24, gives: true, fails: []int{2, 20, 22, 24}, least: 3})
	checkKeeperIs(t, "more at first", p, []int{0, 0, 0, 2, 2, 0}, 200, watch(3, 16), toldKeeper{kinds: []int{panics, panics, panics, back, back, panics}, clock: 24, fails: []int{2, 4, 6, 24}, least: 3})
}

func TestPromise8NoJobs(t *testing.T) {
	for _, w := range []impl.Watch{watch(0, 0), watch(0, 1000), watch(20, 0), watch(20, 1000)} {
		for _, fuel := range []int{0, 200} {
			checkKeeperIs(t, "none", mixed(), nil, fuel, w, toldKeeper{})
			checkKeeperIs(t, "none at all", program(body(throw(0))), []int{}, fuel, w, toldKeeper{})
		}
	}
	// Without jobs, all else is to be valid all the same.
	for _, f := range []int{-1, 2, math.MaxInt} {
		checkNoKeeper(t, mixed(), f, nil, 9, watch(1, 10))
	}
	for _, fuel := range []int{-1, 201, math.MaxInt} {
		checkNoKeeper(t, mixed(), 0, nil, fuel, watch(1, 10))
	}
	for _, p := range invalidPrograms() {
		checkNoKeeper(t, p, 0, nil, 9, watch(1, 10))
	}
	checkNoKeeper(t, mixed(), 0, nil, 9, watch(1, 1001))
}

// checkNoKeeper checks that all that is told of a keeper fails, also the least Limit, which asks for
// no Limit.
func checkNoKeeper(t *testing.T, p impl.Program, f int, jobs []int, fuel int, w impl.Watch) {
	t.Helper()
	if all, ok := tellKeeper(p, f, jobs, fuel, w); ok != [3]bool{} || !sameToldKeeper(all, toldKeeper{}) {
		t.Error("a keeper", f, len(jobs), fuel, w, all, ok)
	}
}

func TestPromise8MaxJobsAndMore(t *testing.T) {
	thrower := program(body(throw(0)))
	full := numbers(1, 20)
	checkKeeperIs(t, "as many as there may be", thrower, full, 200, watch(20, 1000),
		toldKeeper{kinds: slices.Repeat([]int{panics}, 20), clock: 20, fails: full, least: 20})
	checkKeeperIs(t, "gives up behind the last one", thrower, full, 200, watch(19, 1000),
		toldKeeper{kinds: slices.Repeat([]int{panics}, 20), clock: 20, gives: true, fails: full, least: 20})
	checkKeeperIs(t, "gives up behind the one before", thrower, full, 200, watch(18, 1000),
		toldKeeper{kinds: slices.Repeat([]int{panics}, 19), clock: 19, gives: true, fails: numbers(1, 19), least: 20})
	checkKeeperIs(t, "of which none fails", program(nil), full, 0, watch(0, 1000), toldKeeper{kinds: slices.Repeat([]int{back}, 20)})
	for _, size := range []int{21, 22, 1 << 20} {
		checkNoKeeper(t, thrower, 0, make([]int, size), 200, watch(20, 1000))
		checkNoKeeper(t, thrower, 0, make([]int, size), 200, watch(0, 1000))
	}
}

func TestPromise8SpansOfZero(t *testing.T) {
	// No run is within a Span of 0, not even that which fails just now.
	for limit := range 21 {
		checkKeeperIs(t, "panics", program(body(throw(0))), numbers(1, 20), 200, watch(limit, 0),
			toldKeeper{kinds: slices.Repeat([]int{panics}, 20), clock: 20, fails: numbers(1, 20)})
		checkKeeperIs(t, "spends nothing", program(body(throw(0))), numbers(1, 20), 0, watch(limit, 0),
			toldKeeper{kinds: slices.Repeat([]int{stops}, 20), fails: make([]int, 20)})
	}
	// Within one of 1 there are those that fail at the same time.
	checkKeeperIs(t, "a Span of 1", program(body(throw(0))), numbers(1, 20), 200, watch(1, 1), toldKeeper{kinds: slices.Repeat([]int{panics}, 20), clock: 20, fails: numbers(1, 20), least: 1})
	checkKeeperIs(t, "with the Limit 0", program(body(throw(0))), numbers(1, 20), 200, watch(0, 1), toldKeeper{kinds: []int{panics}, clock: 1, gives: true, fails: []int{1}, least: 1})
}

func TestPromise8RunsThatSpendNothing(t *testing.T) {
	// Without fuel the clock stands still, so all that fail are within each Span of at least 1.
	p := program(body(throw(0)))
	for _, span := range []int{1, 2, 1000} {
		checkKeeperIs(t, "gives up", p, numbers(1, 9), 0, watch(3, span), toldKeeper{kinds: []int{stops, stops, stops, stops}, gives: true, fails: make([]int, 4), least: 9})
		checkKeeperIs(t, "gives up behind the last one", p, numbers(1, 9), 0, watch(8, span), toldKeeper{kinds: slices.Repeat([]int{stops}, 9), gives: true, fails: make([]int, 9), least: 9})
		checkKeeperIs(t, "does not give up", p, numbers(1, 9), 0, watch(9, span), toldKeeper{kinds: slices.Repeat([]int{stops}, 9), fails: make([]int, 9), least: 9})
	}
}

func TestPromise8RunsThatFailAtTheEdgeOfASpan(t *testing.T) {
	p := mixed()
	// The first one fails at 2, and the next ones at 8 and 10 more.
	jobs := []int{0, 1, 0, 2, 0}
	kinds := []int{panics, leaves, panics, back, panics}
	fails := []int{2, 10, 20}
	for span, least := range map[int]int{0: 0, 1: 1, 7: 1, 8: 1, 9: 2, 10: 2, 11: 2, 17: 2, 18: 2, 19: 3, 20: 3, 21: 3, 999: 3, 1000: 3} {
		for limit := range 21 {
			want := toldKeeper{kinds: kinds, clock: 20, fails: fails, least: least}
			switch {
			case limit == 0 && span > 0:
				want = toldKeeper{kinds: kinds[:1], clock: 2, gives: true, fails: fails[:1], least: least}
			case limit == 1 && span > 8:
				want = toldKeeper{kinds: kinds[:3], clock: 10, gives: true, fails: fails[:2], least: least}
			case limit == 2 && span > 18:
				want = toldKeeper{kinds: kinds, clock: 20, gives: true, fails: fails, least: least}
			}
			checkKeeperIs(t, "panics", p, jobs, 200, watch(limit, span), want)
		}
	}
	// With MaxSpan, five runs of 200 are within a Span, the sixth one is just not.
	var times []int
	for i := range 20 {
		times = append(times, 200*(i+1))
	}
	spent := toldKeeper{kinds: slices.Repeat([]int{stops}, 20), clock: 4000, fails: times, least: 5}
	checkKeeperIs(t, "spent", p, numbers(3, 22), 200, watch(5, 1000), spent)
	checkKeeperIs(t, "one run less", p, numbers(3, 22), 200, watch(4, 1000), toldKeeper{kinds: spent.kinds[:5], clock: 1000, gives: true, fails: times[:5], least: 5})
	spent.least = 4
	checkKeeperIs(t, "four of them", p, numbers(3, 22), 200, watch(4, 800), spent)
	spent.least = 5
	checkKeeperIs(t, "just five of them", p, numbers(3, 22), 200, watch(20, 801), spent)
	// With 1 less each time, six runs are within it.
	checkKeeperIs(t, "just six of them", p, numbers(3, 22), 199, watch(5, 1000),
		toldKeeper{kinds: spent.kinds[:6], clock: 1194, gives: true, fails: []int{199, 398, 597, 796, 995, 1194}, least: 6})
}

func TestPromise8KeepersRefuseOthers(t *testing.T) {
	p := program(nil, body(throw(0)))
	for _, f := range []int{math.MinInt, -1, 0, 1, 2, 6, 1 << 32, math.MaxInt} {
		for _, job := range []int{math.MinInt, -32769, -32768, 0, 32767, 32768, 65536, math.MaxInt} {
			for _, fuel := range []int{math.MinInt, -1, 0, 4, 200, 201, 1 << 32, math.MaxInt} {
				valid := (f == 0 || f == 1) && -32768 <= job && job <= 32767 && 0 <= fuel && fuel <= 200
				// A number that is no argument counts wherever it is, also where no run would come to it.
				for _, jobs := range [][]int{{job}, {job, 1, 2}, {1, job, 2}, {1, 2, job}, append(numbers(1, 19), job)} {
					if valid {
						checkKeeper(t, p, f, jobs, fuel, watch(0, 10))
					} else {
						checkNoKeeper(t, p, f, jobs, fuel, watch(0, 10))
						checkNoKeeper(t, p, f, jobs, fuel, watch(20, 0))
					}
				}
			}
		}
	}
}

func TestPromise8WatchesRefuseOthers(t *testing.T) {
	p := program(body(throw(0)))
	limits := []int{math.MinInt, -1 << 32, -1, 0, 1, 19, 20, 21, 1 << 32, 1<<32 + 1, math.MaxInt}
	spans := []int{math.MinInt, -1 << 32, -1, 0, 1, 999, 1000, 1001, 1 << 32, 1<<32 + 1, math.MaxInt}
	for _, limit := range limits {
		for _, span := range spans {
			spanned := 0 <= span && span <= 1000
			valid := spanned && 0 <= limit && limit <= 20
			all, ok := tellKeeper(p, 0, []int{1, 2, 3}, 200, watch(limit, span))
			if ok != [3]bool{valid, valid, spanned} {
				t.Error("watch", limit, span, ok)
			}
			if valid {
				checkKeeper(t, p, 0, []int{1, 2, 3}, 200, watch(limit, span))
				continue
			}
			// The least Limit asks for no Limit.
			want := toldKeeper{}
			if spanned {
				want.least = min(span, 3)
			}
			if !sameToldKeeper(all, want) {
				t.Error("watch", limit, span, all)
			}
		}
	}
}

// keeperAnswers asks all functions of chapter 8, and returns whether they do not fail and how much
// they tell.
func keeperAnswers(p impl.Program, f int, arg int, fuel int, w impl.Policy, list []impl.Deed, jobs []int, v impl.Watch) ([10]bool, [10]int) {
	var ok [10]bool
	var size [10]int
	ok[0] = impl.IsPolicy(w)
	waits, one := impl.WaitsOf(w)
	o, made, sum, two := impl.RetryRun(p, f, arg, fuel, w)
	ok[1], ok[2] = one, two
	size[1], size[2] = len(waits), len(o.Trace)+o.Spent+o.Kind+o.Value+made+sum
	size[3], ok[3] = impl.FirstGood(p, f, arg, arg, fuel)
	size[4], ok[4] = impl.TriesNeeded(p, f, arg, fuel)
	deeds, four := tellDeeds(p, list, arg, fuel)
	ok[5], ok[6] = four[0], four[1]
	size[5], size[6] = deeds.done+deeds.last+len(deeds.backs), len(deeds.stuck)
	kept, five := tellKeeper(p, f, jobs, fuel, v)
	ok[7], ok[8], ok[9] = five[0], five[1], five[2]
	size[7], size[8], size[9] = len(kept.kinds)+kept.clock, len(kept.fails), kept.least
	return ok, size
}

func TestPromise13WhatIsNoProgramIsNotRetried(t *testing.T) {
	for i, p := range invalidPrograms() {
		for _, f := range []int{math.MinInt, -1, 0, 1, 5, 6, math.MaxInt} {
			for _, list := range [][]impl.Deed{nil, {deed(0, 0)}, {deed(f, 0)}, {deed(0, f)}} {
				for _, jobs := range [][]int{nil, {1}, {1, 2, 3}} {
					ok, size := keeperAnswers(p, f, 1, 9, policy(1, 5, 1, 5), list, jobs, watch(3, 9))
					if ok != [10]bool{true, true} || size != [10]int{} {
						t.Error("what is told of no program", i, f, list, jobs, ok, size)
					}
				}
			}
		}
	}
}

func TestPromise13KeepersReturnForAllNumbers(t *testing.T) {
	edges := []int{math.MinInt, math.MinInt + 1, -32769, -1, 0, 1, 6, 32768, math.MaxInt - 1, math.MaxInt}
	for _, p := range []impl.Program{{}, mixed(), steps(), program(nil, body(exit(), impl.Step{Kind: math.MinInt}))} {
		for _, a := range edges {
			for _, b := range edges {
				for _, c := range edges {
					w, v := policy(a, b, c, a), watch(b, c)
					list, jobs := []impl.Deed{deed(a, b), deed(b, c)}, []int{a, b, c}
					one, first := keeperAnswers(p, a, b, c, w, list, jobs, v)
					two, second := keeperAnswers(p, a, b, c, w, list, jobs, v)
					if one != two || first != second {
						t.Fatal("other answers", textByRule(p), a, b, c, one, two, first, second)
					}
					for i, ok := range one {
						if !ok && first[i] != 0 {
							t.Fatal("fails and tells", textByRule(p), a, b, c, i, first[i])
						}
					}
				}
			}
		}
	}
}

func TestPromise13KeepersModifyNothing(t *testing.T) {
	r := rand.New(rand.NewPCG(87, 8))
	for i, p := range append(decidingPrograms(87, 400), invalidPrograms()[:22]...) {
		list, jobs := []impl.Deed{deed(0, 0), deed(0, 1)}, randomJobs(r)
		if len(p.Functions) > 0 {
			list = randomDeeds(r, p)
		}
		if i%9 == 0 {
			list, jobs = append(list, deed(-1, 9)), append(jobs, 32768)
		}
		deeds := append(slices.Clone(list), deed(1, 1), deed(7, 7))
		whole := append(slices.Clone(jobs), 5, -5, 5)
		sameDeeds, sameJobs := slices.Clone(deeds), slices.Clone(whole)
		checkUnmodified(t, p, func(given impl.Program) {
			for f := -1; f <= len(p.Functions); f++ {
				one, first := keeperAnswers(given, f, 1, 60, policy(4, 2, 3, 9), deeds[:len(list)], whole[:len(jobs)], watch(3, 30))
				two, second := keeperAnswers(given, f, 1, 60, policy(4, 2, 3, 9), deeds[:len(list)], whole[:len(jobs)], watch(3, 30))
				if one != two || first != second {
					t.Fatalf("other answers of %s", textByRule(p))
				}
			}
		})
		if !slices.Equal(deeds, sameDeeds) || !slices.Equal(whole, sameJobs) {
			t.Fatalf("modified %v %v: %v %v", sameDeeds, sameJobs, deeds, whole)
		}
	}
}

func TestPromise13ListsOfKeepersAreApart(t *testing.T) {
	p := steps()
	list, jobs := []impl.Deed{deed(0, 2), deed(0, 3), deed(2, 1)}, []int{1, 0, 5}
	checkListsApart(t,
		func() ([]int, bool) { return impl.WaitsOf(policy(4, 2, 3, 9)) },
		func() ([]int, bool) {
			_, _, backs, ok := impl.CarryOut(p, list, 4, 99)
			return backs, ok
		},
		func() ([]int, bool) { return impl.StuckDeeds(p, list, 4, 99) },
		func() ([]int, bool) {
			kinds, _, _, ok := impl.KeepRunning(p, 2, jobs, 99, watch(9, 9))
			return kinds, ok
		},
		func() ([]int, bool) { return impl.FailTimes(p, 2, jobs, 99, watch(9, 9)) },
	)
	one, _, _, _ := impl.RetryRun(p, 0, 4, 99, policy(4, 2, 3, 9))
	two, _, _, _ := impl.RetryRun(p, 0, 4, 99, policy(4, 2, 3, 9))
	clear(one.Trace[:cap(one.Trace)])
	if !sameOutcome(two, returned(5, 3, called(0, 4), returns(0, 5))) {
		t.Error("traces share memory", two)
	}
	if !slices.Equal(list, []impl.Deed{deed(0, 2), deed(0, 3), deed(2, 1)}) || !slices.Equal(jobs, []int{1, 0, 5}) || !sameProgram(p, steps()) {
		t.Error("results share memory with arguments", list, jobs)
	}
}
