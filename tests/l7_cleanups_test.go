package tests

import (
	"math"
	"math/rand/v2"
	"slices"
	"testing"

	"loop.example/g01183/impl"
)

// toldEntries is what the functions of chapter 7 tell of entries. It mends none if there would be
// too many.
type toldEntries struct {
	open, faults []int
	tidy, nested bool
	most         int
	spans        pairs
	mended       []int
	mends        bool
}

func sameToldEntries(a toldEntries, b toldEntries) bool {
	return slices.Equal(a.open, b.open) && slices.Equal(a.faults, b.faults) && a.tidy == b.tidy && a.nested == b.nested &&
		a.most == b.most && slices.Equal(a.spans, b.spans) && slices.Equal(a.mended, b.mended) && a.mends == b.mends
}

// tellEntries asks all functions of chapter 7 that need a list alone, and returns which of them do
// not fail.
func tellEntries(list []int) (toldEntries, [7]bool) {
	var all toldEntries
	var ok [7]bool
	all.open, ok[0] = impl.OpenAtEnd(list)
	all.faults, ok[1] = impl.FaultsOf(list)
	all.tidy, ok[2] = impl.IsTidy(list)
	all.nested, ok[3] = impl.IsNested(list)
	all.most, ok[4] = impl.MostOpen(list)
	all.spans, ok[5] = impl.SpansOf(list)
	all.mended, ok[6] = impl.MendEntries(list)
	all.mends = ok[6]
	return all, ok
}

func size(n int) int { return max(n, -n) }

// lastEntry returns the place of the last one of some entries for a resource, or -1.
func lastEntry(list []int, resource int) int {
	for place := len(list) - 1; place >= 0; place-- {
		if size(list[place]) == resource {
			return place
		}
	}
	return -1
}

// openBehind returns the resources that are open behind some entries, in the order of the last
// entries for them.
func openBehind(list []int) []int {
	var open []int
	for place, n := range list {
		if n > 0 && lastEntry(list, n) == place {
			open = append(open, n)
		}
	}
	return open
}

// modelEntries tells of entries what chapter 7 says, each time from all entries up to a place.
func modelEntries(list []int) toldEntries {
	all := toldEntries{open: openBehind(list), nested: true}
	var kept []int
	for place, n := range list {
		before := openBehind(list[:place])
		if n != 0 && slices.Contains(before, size(n)) == (n > 0) {
			all.faults = append(all.faults, place)
		} else {
			kept = append(kept, n)
		}
		all.most = max(all.most, len(openBehind(list[:place+1])))
		if n > 0 {
			end := -1
			for other := len(list) - 1; other > place; other-- {
				if list[other] == -n {
					end = other
				}
			}
			all.spans = append(all.spans, [2]int{place, end})
		}
		all.nested = all.nested && (n >= 0 || len(before) > 0 && before[len(before)-1] == -n)
	}
	all.tidy = len(all.faults)+len(all.open) == 0
	all.nested = all.nested && all.tidy
	for left := openBehind(kept); len(left) > 0; left = openBehind(kept) {
		kept = append(kept, -left[len(left)-1])
	}
	if all.mends = len(kept) <= 60; all.mends {
		all.mended = kept
	}
	return all
}

// cross reports whether two of some spans cross.
func cross(spans pairs) bool {
	return slices.ContainsFunc(spans, func(one [2]int) bool {
		return slices.ContainsFunc(spans, func(two [2]int) bool { return one[0] < two[0] && two[0] < one[1] && one[1] < two[1] })
	})
}

// checkEntries compares what is told of entries with the model, and with what chapter 7
// guarantees.
func checkEntries(t *testing.T, list []int) toldEntries {
	t.Helper()
	got, ok := tellEntries(list)
	want := modelEntries(list)
	if !sameToldEntries(got, want) || ok != [7]bool{true, true, true, true, true, true, want.mends} {
		t.Fatalf("%v: %v %v, not %v", list, got, ok, want)
	}
	if got.tidy != (len(got.faults) == 0 && len(got.open) == 0) || got.nested != (got.tidy && !cross(got.spans)) {
		t.Fatalf("tidy and nested: %v: %v", list, got)
	}
	if got.tidy && (!got.mends || !slices.Equal(got.mended, list)) {
		t.Fatalf("mended tidy entries: %v: %v", list, got)
	}
	if tidy, ok := impl.IsTidy(got.mended); got.mends && (!tidy || !ok) {
		t.Fatalf("mended to be tidy: %v: %v", list, got)
	}
	return got
}

// checkEntriesAre compares entries with all that is to be told of them.
func checkEntriesAre(t *testing.T, name string, list []int, want toldEntries) {
	t.Helper()
	if got := checkEntries(t, list); !sameToldEntries(got, want) {
		t.Errorf("%s: %v, not %v", name, got, want)
	}
}

// randomEntries returns entries, always the same ones for the same seed: of some, all that they
// open is closed again, mostly from the last one on.
func randomEntries(seed uint64, count int) [][]int {
	r := rand.New(rand.NewPCG(seed, 7))
	resources := append([]int{1, 32767, 2, 32766, 3, 100}, numbers(4, 60)...)
	all := make([][]int, count)
	for i := range all {
		choice := resources[:1+r.IntN([]int{12, len(resources)}[r.IntN(2)])]
		wild := []int{0, 0, 1, 4}[r.IntN(4)]
		length := []int{5, 20, impl.MaxEntries}[r.IntN(3)] - r.IntN(4)
		var list []int
		for len(list) < length {
			n := choice[r.IntN(len(choice))]
			open := openBehind(list)
			switch {
			case r.IntN(10) < wild:
				n *= []int{1, 1, -1, 0}[r.IntN(4)]
			case len(open) > 0 && (slices.Contains(open, n) || len(open) >= length-len(list)):
				n = -open[len(open)-1]
				if wild == 1 {
					n = -open[r.IntN(len(open))]
				}
			}
			list = append(list, n)
		}
		all[i] = list
	}
	return all
}

func TestPromise7EachSmallEntriesAreAsTheModel(t *testing.T) {
	checkEntries(t, nil)
	for _, list := range append(listsOf([]int{0, 1, -1, 2, -2, 3, -3}, 5), listsOf([]int{1, -1, 2, -2}, 8)...) {
		checkEntries(t, list)
	}
}

func TestPromise7RandomEntriesAreAsTheModel(t *testing.T) {
	var tidy, nested, closed, dropped, tooMany int
	for _, list := range randomEntries(71, 4000) {
		switch all := checkEntries(t, list); {
		case all.nested:
			nested++
		case all.tidy:
			tidy++
		case !all.mends:
			tooMany++
		case len(all.faults) == 0:
			closed++
		default:
			dropped++
		}
	}
	if min(tidy, nested, closed, dropped, tooMany) < 50 {
		t.Error("the entries are too much alike", tidy, nested, closed, dropped, tooMany)
	}
}

func TestPromise7Entries(t *testing.T) {
	checkEntriesAre(t, "none", nil, toldEntries{tidy: true, nested: true, mends: true})
	checkEntriesAre(t, "none at all", []int{}, toldEntries{tidy: true, nested: true, mends: true})
	checkEntriesAre(t, "one that opens", []int{7}, toldEntries{open: []int{7}, most: 1, spans: pairs{{0, -1}}, mended: []int{7, -7}, mends: true})
	checkEntriesAre(t, "opened and closed", []int{7, -7}, toldEntries{tidy: true, nested: true, most: 1, spans: pairs{{0, 1}}, mended: []int{7, -7}, mends: true})
	checkEntriesAre(t, "one behind the other", []int{1, -1, 2, -2, 1, -1},
		toldEntries{tidy: true, nested: true, most: 1, spans: pairs{{0, 1}, {2, 3}, {4, 5}}, mended: []int{1, -1, 2, -2, 1, -1}, mends: true})
	checkEntriesAre(t, "one in the other", []int{1, 2, -2, 3, -3, -1},
		toldEntries{tidy: true, nested: true, most: 2, spans: pairs{{0, 5}, {1, 2}, {3, 4}}, mended: []int{1, 2, -2, 3, -3, -1}, mends: true})
	checkEntriesAre(t, "opened again in another", []int{2, 1, -1, 1, -1, -2},
		toldEntries{tidy: true, nested: true, most: 2, spans: pairs{{0, 5}, {1, 2}, {3, 4}}, mended: []int{2, 1, -1, 1, -1, -2}, mends: true})
	checkEntriesAre(t, "of the greatest numbers", []int{32767, 1, -1, -32767},
		toldEntries{tidy: true, nested: true, most: 2, spans: pairs{{0, 3}, {1, 2}}, mended: []int{32767, 1, -1, -32767}, mends: true})
}

func TestPromise7ResourcesThatAreOpenedTwice(t *testing.T) {
	checkEntriesAre(t, "opened twice", []int{1, 1}, toldEntries{open: []int{1}, faults: []int{1}, most: 1, spans: pairs{{0, -1}, {1, -1}}, mended: []int{1, -1}, mends: true})
	// One closing is enough, and it ends both spans.
	checkEntriesAre(t, "closed once", []int{1, 1, -1}, toldEntries{faults: []int{1}, most: 1, spans: pairs{{0, 2}, {1, 2}}, mended: []int{1, -1}, mends: true})
	checkEntriesAre(t, "closed twice as well", []int{1, 1, -1, -1},
		toldEntries{faults: []int{1, 3}, most: 1, spans: pairs{{0, 2}, {1, 2}}, mended: []int{1, -1}, mends: true})
	checkEntriesAre(t, "three times", []int{5, 5, 5}, toldEntries{open: []int{5}, faults: []int{1, 2}, most: 1, spans: pairs{{0, -1}, {1, -1}, {2, -1}}, mended: []int{5, -5}, mends: true})
	// What is open is told in the order of the last opening entries, be they faults; but a fault is
	// none of those behind which the entries are mended.
	checkEntriesAre(t, "again behind another", []int{1, 2, 1},
		toldEntries{open: []int{2, 1}, faults: []int{2}, most: 2, spans: pairs{{0, -1}, {1, -1}, {2, -1}}, mended: []int{1, 2, -2, -1}, mends: true})
	checkEntriesAre(t, "again behind another, and closed", []int{1, 2, 1, -1, -2},
		toldEntries{faults: []int{2}, most: 2, spans: pairs{{0, 3}, {1, 4}, {2, 3}}, mended: []int{1, 2, -1, -2}, mends: true})
	// One that is closed between is opened anew, and is the last one that one of the entries opened.
	checkEntriesAre(t, "closed between", []int{1, 2, -1, 1},
		toldEntries{open: []int{2, 1}, most: 2, spans: pairs{{0, 2}, {1, -1}, {3, -1}}, mended: []int{1, 2, -1, 1, -1, -2}, mends: true})
	checkEntriesAre(t, "closed between, and again", []int{1, 2, -1, 1, 2, 3, 2},
		toldEntries{open: []int{1, 3, 2}, faults: []int{4, 6}, most: 3, spans: pairs{{0, 2}, {1, -1}, {3, -1}, {4, -1}, {5, -1}, {6, -1}},
			mended: []int{1, 2, -1, 1, 3, -3, -1, -2}, mends: true})
}

func TestPromise7ResourcesThatAreClosedFirst(t *testing.T) {
	checkEntriesAre(t, "closed alone", []int{-1}, toldEntries{faults: []int{0}, mends: true})
	checkEntriesAre(t, "closed before", []int{-1, 1}, toldEntries{open: []int{1}, faults: []int{0}, most: 1, spans: pairs{{1, -1}}, mended: []int{1, -1}, mends: true})
	checkEntriesAre(t, "closed before and behind", []int{-1, 1, -1}, toldEntries{faults: []int{0}, most: 1, spans: pairs{{1, 2}}, mended: []int{1, -1}, mends: true})
	checkEntriesAre(t, "closed twice", []int{1, -1, -1}, toldEntries{faults: []int{2}, most: 1, spans: pairs{{0, 1}}, mended: []int{1, -1}, mends: true})
	checkEntriesAre(t, "closed twice before", []int{-1, -1, 2}, toldEntries{open: []int{2}, faults: []int{0, 1}, most: 1, spans: pairs{{2, -1}}, mended: []int{2, -2}, mends: true})
	// Another one that is open is not closed by it.
	checkEntriesAre(t, "another", []int{1, -2, -1}, toldEntries{faults: []int{1}, most: 1, spans: pairs{{0, 2}}, mended: []int{1, -1}, mends: true})
	checkEntriesAre(t, "another, opened behind", []int{1, -2, 2, -1},
		toldEntries{open: []int{2}, faults: []int{1}, most: 2, spans: pairs{{0, 3}, {2, -1}}, mended: []int{1, 2, -1, -2}, mends: true})
	// A closing entry ahead of an opening one is none behind it.
	checkEntriesAre(t, "spans go forth", []int{-3, 3, -3, 3}, toldEntries{open: []int{3}, faults: []int{0}, most: 1, spans: pairs{{1, 2}, {3, -1}}, mended: []int{3, -3, 3, -3}, mends: true})
	checkEntriesAre(t, "of the greatest number", []int{-32767, 32767, 32767}, toldEntries{open: []int{32767}, faults: []int{0, 2}, most: 1, spans: pairs{{1, -1}, {2, -1}},
		mended: []int{32767, -32767}, mends: true})
}

func TestPromise7EntriesOfZero(t *testing.T) {
	// They do nothing, are no faults, and stay where they are.
	checkEntriesAre(t, "one", []int{0}, toldEntries{tidy: true, nested: true, mended: []int{0}, mends: true})
	checkEntriesAre(t, "twice", []int{0, 0}, toldEntries{tidy: true, nested: true, mended: []int{0, 0}, mends: true})
	checkEntriesAre(t, "among others", []int{0, 1, 0, 2, -2, 0, -1, 0},
		toldEntries{tidy: true, nested: true, most: 2, spans: pairs{{1, 6}, {3, 4}}, mended: []int{0, 1, 0, 2, -2, 0, -1, 0}, mends: true})
	checkEntriesAre(t, "among faults", []int{0, -1, 0, 2, 0, 2, 0},
		toldEntries{open: []int{2}, faults: []int{1, 5}, most: 1, spans: pairs{{3, -1}, {5, -1}}, mended: []int{0, 0, 2, 0, 0, -2}, mends: true})
	checkEntriesAre(t, "as many as there may be", make([]int, 60), toldEntries{tidy: true, nested: true, mended: make([]int, 60), mends: true})
}

func TestPromise7SpansThatCross(t *testing.T) {
	checkEntriesAre(t, "two", []int{1, 2, -1, -2}, toldEntries{tidy: true, most: 2, spans: pairs{{0, 2}, {1, 3}}, mended: []int{1, 2, -1, -2}, mends: true})
	checkEntriesAre(t, "two of three", []int{1, 2, 3, -3, -1, -2}, toldEntries{tidy: true, most: 3, spans: pairs{{0, 4}, {1, 5}, {2, 3}}, mended: []int{1, 2, 3, -3, -1, -2}, mends: true})
	checkEntriesAre(t, "behind what is nested", []int{3, -3, 0, 2, 1, -2, -1},
		toldEntries{tidy: true, most: 2, spans: pairs{{0, 1}, {3, 5}, {4, 6}}, mended: []int{3, -3, 0, 2, 1, -2, -1}, mends: true})
	checkEntriesAre(t, "opened again inside", []int{1, 2, -1, 1, -2, -1}, toldEntries{tidy: true, most: 2, spans: pairs{{0, 2}, {1, 4}, {3, 5}}, mended: []int{1, 2, -1, 1, -2, -1}, mends: true})
	// Those that nothing closes, or that are closed for a fault, are not nested, though none cross.
	checkEntriesAre(t, "one that nothing closes", []int{1, 2, -2}, toldEntries{open: []int{1}, most: 2, spans: pairs{{0, -1}, {1, 2}}, mended: []int{1, 2, -2, -1}, mends: true})
	checkEntriesAre(t, "inside one that nothing closes", []int{1, 2, -1}, toldEntries{open: []int{2}, most: 2, spans: pairs{{0, 2}, {1, -1}}, mended: []int{1, 2, -1, -2}, mends: true})
	checkEntriesAre(t, "all that nothing closes", []int{3, 1, 2}, toldEntries{open: []int{3, 1, 2}, most: 3, spans: pairs{{0, -1}, {1, -1}, {2, -1}}, mended: []int{3, 1, 2, -2, -1, -3}, mends: true})
	checkEntriesAre(t, "a fault ahead", []int{-1, 2, -2}, toldEntries{faults: []int{0}, most: 1, spans: pairs{{1, 2}}, mended: []int{2, -2}, mends: true})
	// What is open at once may be more before than behind all.
	checkEntriesAre(t, "most before", []int{1, 2, 3, -2, -3, 4, -4, -1}, toldEntries{tidy: true, most: 3, spans: pairs{{0, 7}, {1, 3}, {2, 4}, {5, 6}},
		mended: []int{1, 2, 3, -2, -3, 4, -4, -1}, mends: true})
}

// closings returns the entries that close resources, the last one first.
func closings(resources []int) []int {
	var list []int
	for _, n := range slices.Backward(resources) {
		list = append(list, -n)
	}
	return list
}

func TestPromise7JustMaxEntriesAndMore(t *testing.T) {
	half := numbers(1, impl.MaxEntries/2)
	full := append(slices.Clone(half), closings(half)...)
	all := checkEntries(t, full)
	if len(full) != impl.MaxEntries || !all.nested || all.most != 30 || all.spans[0] != [2]int{0, 59} || all.spans[29] != [2]int{29, 30} {
		t.Error("as many as there may be", all)
	}
	// All that is opened by as many entries is open, and cannot be closed by more.
	most := numbers(32767-59, 32767)
	all = checkEntries(t, most)
	if !slices.Equal(all.open, most) || all.most != impl.MaxEntries || all.mends {
		t.Error("all of them open", all)
	}
	for _, list := range [][]int{append([]int{0}, full...), append(slices.Clone(full), 0), append(slices.Clone(most), -32767), make([]int, 61), slices.Repeat([]int{-1}, 61), make([]int, 1<<20)} {
		if all, ok := tellEntries(list); ok != [7]bool{} || !sameToldEntries(all, toldEntries{}) {
			t.Error("more than MaxEntries", len(list), all, ok)
		}
	}
}

func TestPromise7MendedEntriesAreAtMostMaxEntries(t *testing.T) {
	for opens := range 33 {
		for zeros := range impl.MaxEntries + 1 - opens {
			for faults := 0; faults <= impl.MaxEntries-opens-zeros; faults += 1 + zeros/4 {
				list := append(make([]int, zeros), slices.Repeat([]int{-99}, faults)...)
				list = append(list, numbers(1, opens)...)
				want := append(make([]int, zeros), numbers(1, opens)...)
				want = append(want, closings(numbers(1, opens))...)
				mended, ok := impl.MendEntries(list)
				if fits := zeros+2*opens <= impl.MaxEntries; ok != fits || fits && !slices.Equal(mended, want) || !fits && len(mended) != 0 {
					t.Fatal("mended", zeros, faults, opens, mended, ok)
				}
			}
		}
	}
	// Faults that are dropped leave room for closings.
	list := append(slices.Repeat([]int{5}, impl.MaxEntries-1), 6)
	if mended, ok := impl.MendEntries(list); !ok || !slices.Equal(mended, []int{5, 6, -6, -5}) {
		t.Error("of faults", mended, ok)
	}
}

func TestPromise7NumbersThatAreNoEntries(t *testing.T) {
	for _, n := range []int{-32769, -32768, -32767, -32766, 0, 32766, 32767, 32768, 32769, 65536, 65537, 1 << 32, 1<<32 + 1, -1 << 32, math.MinInt, math.MinInt + 1, math.MaxInt} {
		valid := -32767 <= n && n <= 32767
		for _, list := range [][]int{{n}, {n, n}, {1, n, -1}, {n, 1, -1}, {1, -1, n}, append(make([]int, 59), n), append([]int{n}, make([]int, 59)...)} {
			if valid {
				checkEntries(t, list)
			} else if all, ok := tellEntries(list); ok != [7]bool{} || !sameToldEntries(all, toldEntries{}) {
				t.Error("no entries", list, all, ok)
			}
		}
	}
}

// toldRun is what the functions of chapter 7 tell of a run. What it says may be no entries; then
// nothing leaks.
type toldRun struct {
	entries bool
	open    []int
	leaks   bool
	fails   []int
}

func sameToldRun(a toldRun, b toldRun) bool {
	return a.entries == b.entries && slices.Equal(a.open, b.open) && a.leaks == b.leaks && slices.Equal(a.fails, b.fails)
}

// modelEntriesOf tells of a run what the model has written down.
func modelEntriesOf(p impl.Program, f int, arg int, fuel int) toldRun {
	m := modelOf(p, f, arg, fuel)
	all := toldRun{entries: true}
	var said []int
	for _, e := range m.out.Trace {
		if e.Kind == impl.EventSay {
			said = append(said, e.Value)
			all.entries = all.entries && len(said) <= 60 && e.Value != -32768
		}
	}
	if all.entries {
		entries := modelEntries(said)
		all.open, all.leaks = entries.open, !entries.tidy
	}
	for _, c := range m.calls {
		if c.deferred && c.ended && c.kind == impl.OutPanicked {
			all.fails = append(all.fails, c.number)
		}
	}
	return all
}

// checkCleanup compares what is told of a run with the model.
func checkCleanup(t *testing.T, p impl.Program, f int, arg int, fuel int) toldRun {
	t.Helper()
	open, one := impl.LeaksOf(p, f, arg, fuel)
	args, two := impl.LeakingArgs(p, f, arg, arg, fuel)
	fails, three := impl.CleanupFails(p, f, arg, fuel)
	got := toldRun{entries: one, open: open, leaks: len(args) > 0, fails: fails}
	want := modelEntriesOf(p, f, arg, fuel)
	if !three || one != two || len(args) > 0 && !slices.Equal(args, []int{arg}) || !sameToldRun(got, want) {
		t.Fatalf("%d of %s with %d and %d: %v %t %t %t, not %v", f, textByRule(p), arg, fuel, got, one, two, three, want)
	}
	return got
}

// checkCleanupIs compares a run of the function 0 with all that is to be told of it.
func checkCleanupIs(t *testing.T, name string, p impl.Program, arg int, fuel int, want toldRun) {
	t.Helper()
	if got := checkCleanup(t, p, 0, arg, fuel); !sameToldRun(got, want) {
		t.Errorf("%s: %v, not %v", name, got, want)
	}
}

// openingPrograms returns valid Programs, always the same ones for the same seed: their bodies open
// resources and defer their closings, mostly all of them, and some panic, exit and recover too. The
// last function says its argument.
func openingPrograms(seed uint64, count int) []impl.Program {
	r := rand.New(rand.NewPCG(seed, 77))
	all := make([]impl.Program, count)
	for i := range all {
		last := 1 + r.IntN(4)
		all[i] = program()
		for f := range last {
			b := body()
			if n := 1 + r.IntN(5); r.IntN(9) > 0 {
				b = append(b, set(2, n), say(2), set(3, -n))
				if r.IntN(5) > 0 {
					b = append(b, later(last, 3))
				}
			}
			for len(b) < impl.MaxBody && r.IntN(4) > 0 {
				next := f + 1 + r.IntN(last-f)
				b = append(b, []impl.Step{throw(0), exit(), save(1), call(next, 3), call(next, 3), later(next, 3), later(next, 0), randomStep(r, last+1)}[r.IntN(8)])
			}
			all[i].Functions = append(all[i].Functions, b)
		}
		all[i].Functions = append(all[i].Functions, body(say(0)))
	}
	return all
}

func TestPromise7RunsAreAsTheModel(t *testing.T) {
	var none, leak, leave, tidy, fails int
	for i, p := range append(append(randomPrograms(72, 1500), panickingPrograms(72, 1500)...), openingPrograms(72, 3000)...) {
		for f := range p.Functions {
			for _, run := range [][2]int{{edgeNumbers[i%len(edgeNumbers)], impl.MaxFuel}, {1, impl.MaxFuel}, {5, 40}, {1, 6}} {
				all := checkCleanup(t, p, f, run[0], run[1])
				said, _ := impl.SaidNumbers(p, f, run[0], run[1])
				switch {
				case !all.entries:
					none++
				case len(all.open) > 0:
					leave++
				case all.leaks:
					leak++
				case len(said) > 1:
					tidy++
				}
				fails += min(1, len(all.fails))
			}
		}
	}
	if min(none, leak, leave, tidy, fails) < 300 {
		t.Error("the runs are too much alike", none, leak, leave, tidy, fails)
	}
}

func TestPromise7EachFuel(t *testing.T) {
	for i, p := range append(panickingPrograms(73, 60), openingPrograms(73, 100)...) {
		var before []int
		for fuel := range impl.MaxFuel + 1 {
			all := checkCleanup(t, p, 0, edgeNumbers[i%len(edgeNumbers)], fuel)
			// With less fuel, less deferred calls have ended.
			for _, number := range before {
				if !slices.Contains(all.fails, number) {
					t.Fatalf("fails of %s with %d: %v, and %v before", textByRule(p), fuel, all.fails, before)
				}
			}
			before = all.fails
		}
	}
}

// entriesOf returns what is told of what a run of the function 0 says.
func entriesOf(t *testing.T, p impl.Program, arg int, fuel int) toldEntries {
	t.Helper()
	said, ok := impl.SaidNumbers(p, 0, arg, fuel)
	if !ok {
		t.Fatalf("says %s with %d and %d", textByRule(p), arg, fuel)
	}
	return checkEntries(t, said)
}

func TestPromise7DeferredClosingsMakeEntriesNested(t *testing.T) {
	// Each function opens a resource, defers its closing, and calls the next one; the last one says.
	for end, kind := range map[impl.Step]int{set(1, 1): back, give(0): back, throw(0): panics, exit(): leaves} {
		for functions := 1; functions < impl.MaxFunctions; functions++ {
			p := program()
			for f := range functions {
				b := body(set(2, 32767-f), say(2), set(3, f-32767), later(functions, 3), call(f+1, 0))
				if f == functions-1 {
					b[4] = end
				}
				p.Functions = append(p.Functions, b)
			}
			p.Functions = append(p.Functions, body(say(0)))
			o, _ := impl.RunProgram(p, 0, 6, impl.MaxFuel)
			if all := entriesOf(t, p, 6, impl.MaxFuel); !all.nested || all.most != functions || o.Kind != kind {
				t.Error("in calls", textByRule(p), all, o)
			}
			checkCleanupIs(t, "in calls", p, 6, impl.MaxFuel, toldRun{entries: true})
			// Where the closing is not deferred, a panic or an exit leaves open what is outside.
			if functions > 1 && kind != back {
				first := body(set(2, 9), say(2), call(1, 0), set(3, -9), say(3))
				checkCleanupIs(t, "not deferred", program(append([][]impl.Step{first}, p.Functions[1:]...)...), 6, impl.MaxFuel, toldRun{entries: true, open: []int{9}, leaks: true})
			}
		}
	}
	// In a loop; the argument -n lets it close what it opens, the resources n, n - 1, .. 1.
	for n := 1; n <= 32; n++ {
		p := program(body(set(1, n), set(2, 1), set(3, -1), say(1), later(1, 0), add(1, 3), add(0, 2), jump(3, 1)), body(say(0)))
		opened := numbers(1, n)
		slices.Reverse(opened)
		said, ok := impl.SaidNumbers(p, 0, -n, impl.MaxFuel)
		if !ok || !slices.Equal(said, append(slices.Clone(opened), closings(opened)...)) {
			t.Fatal("in a loop", n, said)
		}
		if n > impl.MaxEntries/2 {
			checkCleanupIs(t, "more than MaxEntries", p, -n, impl.MaxFuel, toldRun{})
			continue
		}
		if all := entriesOf(t, p, -n, impl.MaxFuel); !all.nested || all.most != n {
			t.Error("in a loop", n, all)
		}
		checkCleanupIs(t, "in a loop", p, -n, impl.MaxFuel, toldRun{entries: true})
		// With less fuel, those that are closed last are left open.
		for less := 1; less <= n; less++ {
			checkCleanupIs(t, "spent", p, -n, 3+6*n-less, toldRun{entries: true, open: opened[:less], leaks: true})
		}
	}
}

func TestPromise7WhatIsOpenedOnceAndDeferredIsNested(t *testing.T) {
	nested := 0
	for _, p := range openingPrograms(74, 6000) {
		// Only the last function closes, and each of its calls is deferred where a resource is opened.
		o, _ := impl.RunProgram(p, 0, 0, impl.MaxFuel)
		var opened []int
		plain := o.Kind != stops
		for at, e := range o.Trace {
			last := e.Function == len(p.Functions)-1
			switch {
			case e.Kind == impl.EventSay && !last:
				plain = plain && e.Value > 0 && !slices.Contains(opened, e.Value) && o.Trace[at+1] == waits(len(p.Functions)-1, -e.Value)
				opened = append(opened, e.Value)
			case e.Kind == impl.EventDefer && last:
				before := o.Trace[at-1]
				plain = plain && before.Kind == impl.EventSay && before.Function < e.Function && before.Value == -e.Value
			case e.Kind == impl.EventCall && last:
				plain = false
			}
		}
		if !plain {
			continue
		}
		if all := entriesOf(t, p, 0, impl.MaxFuel); !all.nested {
			t.Fatalf("not nested: %s: %v", textByRule(p), all)
		}
		nested += min(1, len(opened)/2)
	}
	if nested < 100 {
		t.Error("too few programs", nested)
	}
}

func TestPromise7RunsThatLeak(t *testing.T) {
	three := body(set(2, 3), say(2))
	checkCleanupIs(t, "nothing said", program(nil), 6, impl.MaxFuel, toldRun{entries: true})
	checkCleanupIs(t, "opened", program(three), 6, impl.MaxFuel, toldRun{entries: true, open: []int{3}, leaks: true})
	checkCleanupIs(t, "in the order of the last ones", program(append(three, say(0), say(2))), 6, impl.MaxFuel, toldRun{entries: true, open: []int{6, 3}, leaks: true})
	checkCleanupIs(t, "by a call and a deferred one", program(body(later(1, 0), call(2, 0)), body(say(0)), three), 6, impl.MaxFuel, toldRun{entries: true, open: []int{3, 6}, leaks: true})
	// Faults alone make a run leak, though nothing is left open.
	checkCleanupIs(t, "closed alone", program(body(say(0))), -6, impl.MaxFuel, toldRun{entries: true, leaks: true})
	checkCleanupIs(t, "opened twice", program(body(say(0), say(0), set(2, -6), say(2))), 6, impl.MaxFuel, toldRun{entries: true, leaks: true})
	checkCleanupIs(t, "closed twice", program(body(say(0), set(2, -6), say(2), say(2))), 6, impl.MaxFuel, toldRun{entries: true, leaks: true})
	// Runs leak however they end.
	for _, end := range []impl.Step{throw(0), exit(), give(0), jump(2, 2)} {
		checkCleanupIs(t, "behind the end", program(append(three, end, set(3, -3), say(3))), 6, impl.MaxFuel, toldRun{entries: true, open: []int{3}, leaks: true})
	}
	spent := program(append(three, set(3, -3), say(3)))
	for fuel, want := range []toldRun{{entries: true}, {entries: true}, {entries: true, open: []int{3}, leaks: true}, {entries: true, open: []int{3}, leaks: true}, {entries: true}, {entries: true}} {
		checkCleanupIs(t, "spent", spent, 6, fuel, want)
	}
	checkCleanupIs(t, "too deep", program(body(set(2, 3), call(1, 2)), body(set(3, -1), say(0), add(0, 3), jump(5, 0), give(0), call(1, 0))), 6, impl.MaxFuel,
		toldRun{entries: true, open: []int{3, 2, 1}, leaks: true})
	checkCleanupIs(t, "too deep and spent", program(body(say(0), add(0, 0), call(0, 0))), 1, impl.MaxFuel, toldRun{entries: true, open: []int{1, 2, 4, 8, 16, 32, 64, 128}, leaks: true})
}

func TestPromise7RunsThatSayMoreThanMaxEntries(t *testing.T) {
	// It says the numbers from the argument down to 1; the other one says as many entries of 0.
	opens := program(body(set(3, -1), say(0), add(0, 3), jump(1, 0)))
	zeros := program(body(set(3, -1), say(1), add(0, 3), jump(1, 0)))
	for n := 1; n <= 66; n++ {
		down := numbers(1, n)
		slices.Reverse(down)
		most := toldRun{entries: true, open: down, leaks: true}
		none := toldRun{entries: true}
		if n > impl.MaxEntries {
			most, none = toldRun{}, toldRun{}
		}
		checkCleanupIs(t, "opens", opens, n, impl.MaxFuel, most)
		checkCleanupIs(t, "zeros", zeros, n, impl.MaxFuel, none)
	}
	// What is said when all is spent counts.
	checkCleanupIs(t, "spent at MaxEntries", zeros, 99, 181, toldRun{entries: true})
	checkCleanupIs(t, "spent behind MaxEntries", zeros, 99, 182, toldRun{})
	for _, all := range []struct {
		low, high int
		want      []int
		ok        bool
	}{{50, 60, numbers(50, 60), true}, {1, 60, numbers(1, 60), true}, {60, 60, []int{60}, true}, {50, 61, nil, false}, {61, 61, nil, false}, {60, 61, nil, false}, {-39, 61, nil, false},
		{-40, 60, append(numbers(-40, -1), numbers(1, 60)...), true}} {
		if got, ok := impl.LeakingArgs(opens, 0, all.low, all.high, impl.MaxFuel); ok != all.ok || !slices.Equal(got, all.want) {
			t.Error("ranges", all, got, ok)
		}
	}
	// The number -32768 is none of entries, wherever it is said.
	for _, b := range [][]impl.Step{{say(0)}, {say(0), set(2, 1), say(2)}, {set(2, 1), say(2), say(0)}, {say(0), throw(0)}} {
		p := program(b)
		checkCleanupIs(t, "no entry", p, -32768, impl.MaxFuel, toldRun{})
		if all := checkCleanup(t, p, 0, -32767, impl.MaxFuel); !all.entries || !all.leaks {
			t.Error("an entry", all)
		}
		for high := -32768; high <= -32668; high += 50 {
			if args, ok := impl.LeakingArgs(p, 0, -32768, high, impl.MaxFuel); ok || len(args) != 0 {
				t.Error("ranges with no entry", high, args, ok)
			}
		}
		if args, ok := impl.LeakingArgs(p, 0, -32767, -32668, impl.MaxFuel); !ok || !slices.Equal(args, numbers(-32767, -32668)) {
			t.Error("ranges", args, ok)
		}
	}
}

func TestPromise7RangesAreThoseOfTheModel(t *testing.T) {
	part, none := 0, 0
	for i, p := range append(randomPrograms(75, 700), openingPrograms(75, 1300)...) {
		// With a StepJump ahead of all, arguments greater than 0 go another way than others.
		for _, s := range []impl.Step{jump(1+i%4, 0), say(0)} {
			if more, ok := impl.PutStep(p, 0, 0, s); ok && (i%3 == 0 || s != say(0)) {
				p = more
			}
		}
		for _, low := range []int{-3, 0, edgeNumbers[i%len(edgeNumbers)] / 2, -32768} {
			fuel, entries := impl.MaxFuel-i%190, true
			var want []int
			for arg := low; arg <= low+i%7; arg++ {
				told := modelEntriesOf(p, 0, arg, fuel)
				entries = entries && told.entries
				if told.leaks {
					want = append(want, arg)
				}
			}
			got, ok := impl.LeakingArgs(p, 0, low, low+i%7, fuel)
			if ok != entries || entries && !slices.Equal(got, want) || !entries && len(got) != 0 {
				t.Fatalf("%s from %d to %d with %d: %v %t, not %v", textByRule(p), low, low+i%7, fuel, got, ok, want)
			}
			switch {
			case !ok:
				none++
			case len(got) > 0 && len(got) <= i%7:
				part++
			}
		}
	}
	if part < 100 || none < 50 {
		t.Error("the ranges are too much alike", part, none)
	}
}

func TestPromise7RangesOfArguments(t *testing.T) {
	every := program(body(say(0)))
	if args, ok := impl.LeakingArgs(every, 0, -50, 50, impl.MaxFuel); !ok || !slices.Equal(args, append(numbers(-50, -1), numbers(1, 50)...)) {
		t.Error("all but 0", args, ok)
	}
	silent := program(nil)
	for _, low := range []int{-32768, -100, -50, 0, 32667} {
		if args, ok := impl.LeakingArgs(silent, 0, low, low+100, 0); !ok || len(args) != 0 {
			t.Error("silent", low, args, ok)
		}
		if args, ok := impl.LeakingArgs(silent, 0, low, low+101, 0); ok || len(args) != 0 {
			t.Error("more than MaxRange", low, args, ok)
		}
	}
	some := program(body(jump(4, 0), set(2, 3), say(2), give(0), set(2, 0), say(2)))
	if args, ok := impl.LeakingArgs(some, 0, -50, 50, impl.MaxFuel); !ok || !slices.Equal(args, numbers(-50, 0)) {
		t.Error("some", args, ok)
	}
	// Another function, and another fuel, make other runs.
	other := program(nil, body(say(0), set(2, -5), say(2)))
	for _, all := range []struct {
		f, fuel int
		want    []int
	}{{0, 200, nil}, {1, 200, []int{4, 6}}, {1, 3, []int{4, 6}}, {1, 2, []int{4, 5, 6}}, {1, 1, []int{4, 5, 6}}, {1, 0, nil}} {
		if args, ok := impl.LeakingArgs(other, all.f, 4, 6, all.fuel); !ok || !slices.Equal(args, all.want) {
			t.Error("other runs", all, args, ok)
		}
	}
}

func TestPromise7RangesWithOneRunThatSaysNoEntries(t *testing.T) {
	// Behind the StepAdd, just one argument is -32768, which is said if it is below 1.
	for _, at := range []int{-50, -49, 0, 49, 50} {
		p := program(body(set(2, wrapped(-32768-at)), add(0, 2), jump(4, 0), say(0)))
		args, ok := impl.LeakingArgs(p, 0, -50, 50, impl.MaxFuel)
		one, fine := impl.LeaksOf(p, 0, at, impl.MaxFuel)
		if ok || fine || len(args)+len(one) != 0 {
			t.Error("with one", at, args, one)
		}
		before, first := impl.LeakingArgs(p, 0, at-50, at-1, impl.MaxFuel)
		behind, last := impl.LeakingArgs(p, 0, at+1, at+50, impl.MaxFuel)
		if !first || !last || len(before) != 0 || !slices.Equal(behind, numbers(at+1, at+50)) {
			t.Error("beside it", at, before, behind)
		}
	}
}

func TestPromise7CleanupProgram(t *testing.T) {
	for _, a := range []int{1, 2, 5, 300, 32766, 32767} {
		for _, b := range []int{1, 2, 4, 300, 32766, 32767} {
			p, ok := impl.CleanupProgram(a, b)
			want := program(body(set(2, a), say(2), set(3, -a), later(1, 3), set(2, b), say(2), set(3, -b), later(1, 3)), body(say(0)))
			if !ok || !sameProgram(p, want) || !impl.IsProgram(p) {
				t.Fatal("the program", a, b, textByRule(p), ok)
			}
			for _, arg := range []int{-32768, 0, 32767} {
				said, _ := impl.SaidNumbers(p, 0, arg, impl.MaxFuel)
				all := entriesOf(t, p, arg, impl.MaxFuel)
				if !slices.Equal(said, []int{a, b, -b, -a}) || all.nested != (a != b) || all.tidy != (a != b) || len(all.open) != 0 {
					t.Error("entries", a, b, said, all)
				}
				checkCleanupIs(t, "its runs", p, arg, impl.MaxFuel, toldRun{entries: true, leaks: a == b})
			}
		}
	}
	// The same resource twice is opened twice and closed twice.
	same, _ := impl.CleanupProgram(4, 4)
	if all := entriesOf(t, same, 0, impl.MaxFuel); !slices.Equal(all.faults, []int{1, 3}) || !slices.Equal(all.mended, []int{4, -4}) || all.most != 1 {
		t.Error("the same twice", all)
	}
	if args, ok := impl.LeakingArgs(same, 0, -50, 50, impl.MaxFuel); !ok || !slices.Equal(args, numbers(-50, 50)) {
		t.Error("the same twice", args, ok)
	}
	// With less fuel, less of it is closed.
	p, _ := impl.CleanupProgram(4, 5)
	open := [][]int{nil, nil, {4}, {4}, {4}, {4}, {4, 5}, {4, 5}, {4, 5}, {4}, nil, nil}
	for fuel, want := range open {
		checkCleanupIs(t, "spent", p, 0, fuel, toldRun{entries: true, open: want, leaks: len(want) > 0})
	}
}

func TestPromise7CleanupProgramRefusesOthers(t *testing.T) {
	values := []int{math.MinInt, -1 << 32, -32768, -32767, -1, 0, 1, 2, 32766, 32767, 32768, 65535, 65536, 65537, 1 << 32, 1<<32 + 1, math.MaxInt}
	for _, a := range values {
		for _, b := range values {
			valid := 1 <= a && a <= 32767 && 1 <= b && b <= 32767
			if p, ok := impl.CleanupProgram(a, b); ok != valid || !valid && len(p.Functions) != 0 || valid && len(p.Functions) != 2 {
				t.Error("resources", a, b, p, ok)
			}
		}
	}
}

func TestPromise7DeferredCallsThatEndByPanics(t *testing.T) {
	thrower, saver := body(throw(0)), body(save(0))
	fails := func(numbers ...int) toldRun { return toldRun{entries: true, fails: numbers} }
	checkCleanupIs(t, "one", program(body(later(1, 0)), thrower), 3, impl.MaxFuel, fails(1))
	checkCleanupIs(t, "all of them", program(body(later(1, 0), later(1, 0), later(1, 0), throw(0)), thrower), 3, impl.MaxFuel, fails(1, 2, 3))
	checkCleanupIs(t, "among others", program(body(later(1, 0), later(2, 0), later(1, 0), later(2, 0)), thrower, nil), 3, impl.MaxFuel, fails(2, 4))
	// The run may end in any way: the call that runs it may be saved, or exit.
	checkCleanupIs(t, "recovered", program(body(later(2, 0), later(1, 0)), thrower, saver), 3, impl.MaxFuel, fails(1))
	checkCleanupIs(t, "replaced by an exit", program(body(later(2, 0), later(1, 0)), thrower, body(exit())), 3, impl.MaxFuel, fails(1))
	checkCleanupIs(t, "replaced by a panic", program(body(later(1, 0), later(2, 0)), thrower, body(set(2, 9), throw(2))), 3, impl.MaxFuel, fails(1, 2))
	checkCleanupIs(t, "of a call that is saved", program(body(call(1, 0)), body(later(3, 0), later(2, 0)), thrower, saver), 3, impl.MaxFuel, fails(2))
	// Calls that are not deferred ones do not count, nor do those that return or exit.
	checkCleanupIs(t, "the first call", program(thrower), 3, impl.MaxFuel, fails())
	checkCleanupIs(t, "a call", program(body(later(2, 0), call(1, 0)), thrower, nil), 3, impl.MaxFuel, fails())
	checkCleanupIs(t, "a call of a deferred one", program(body(later(1, 0)), body(call(2, 0)), thrower), 3, impl.MaxFuel, fails(1))
	checkCleanupIs(t, "exits", program(body(later(1, 0), throw(0)), body(exit())), 3, impl.MaxFuel, fails())
	checkCleanupIs(t, "recovers", program(body(later(1, 0), throw(0)), saver), 3, impl.MaxFuel, fails())
	checkCleanupIs(t, "is saved itself", program(body(later(1, 0)), body(later(2, 0), throw(0)), saver), 3, impl.MaxFuel, fails())
	checkCleanupIs(t, "exits behind a panic", program(body(later(1, 0)), body(later(2, 0), throw(0)), body(exit())), 3, impl.MaxFuel, fails())
	checkCleanupIs(t, "throws again", program(body(later(1, 0), throw(0)), body(save(0), throw(0))), 3, impl.MaxFuel, fails(1))
	// They are told in the order of their numbers, also where one ends ahead of the one outside.
	nested := program(body(later(1, 0), later(1, 0)), body(later(2, 0)), thrower)
	checkCleanupIs(t, "one in the other", nested, 3, impl.MaxFuel, fails(1, 2, 3, 4))
	checkCleanupIs(t, "inside alone", program(body(later(1, 0), later(1, 0)), body(later(3, 0), later(2, 0)), thrower, saver), 3, impl.MaxFuel, fails(2, 5))
}

func TestPromise7DeferredCallsThatHaveNotEnded(t *testing.T) {
	// The panic of the deferred call is made, but what it has deferred is spent.
	p := program(body(later(1, 0)), body(later(2, 0), throw(0)), body(say(1)))
	for fuel, want := range [][]int{nil, nil, nil, nil, {1}, {1}} {
		checkCleanupIs(t, "spent", p, 3, fuel, toldRun{entries: true, fails: want})
	}
	p = program(body(later(3, 0), later(1, 0)), body(throw(0)), nil, body(jump(0, 0)))
	checkCleanupIs(t, "spent behind one that fails", p, 3, impl.MaxFuel, toldRun{entries: true, fails: []int{1}})
	p = program(body(later(1, 0)), body(later(2, 0), later(3, 0)), body(jump(0, 0)), body(throw(0)))
	checkCleanupIs(t, "spent outside one that fails", p, 3, impl.MaxFuel, toldRun{entries: true, fails: []int{2}})
	// The deepest call has no place for what it defers.
	p = program(body(later(0, 0), throw(0)))
	checkCleanupIs(t, "too deep", p, 3, impl.MaxFuel, toldRun{entries: true})
}

func TestPromise7CleanupFailsDoesNotAskForEntries(t *testing.T) {
	thrower := body(throw(0))
	for name, p := range map[string]impl.Program{
		"no number of entries": program(body(later(1, 0), set(2, -32768), say(2)), thrower),
		"too many numbers":     program(body(later(1, 0), set(3, -1), set(0, 61), say(1), add(0, 3), jump(3, 0)), thrower),
	} {
		checkCleanupIs(t, name, p, 3, impl.MaxFuel, toldRun{fails: []int{1}})
		if open, ok := impl.LeaksOf(p, 0, 3, impl.MaxFuel); ok || len(open) != 0 {
			t.Error(name, open, ok)
		}
	}
}

// cleanupAnswers asks all functions of chapter 7 that tell of runs, and returns whether they do not
// fail and how much they tell. The second one also needs a range.
func cleanupAnswers(p impl.Program, f int, arg int, fuel int, high int) ([3]bool, [3]int) {
	open, one := impl.LeaksOf(p, f, arg, fuel)
	args, two := impl.LeakingArgs(p, f, arg, high, fuel)
	fails, three := impl.CleanupFails(p, f, arg, fuel)
	return [3]bool{one, two, three}, [3]int{len(open), len(args), len(fails)}
}

func TestPromise7RunsRefuseOthers(t *testing.T) {
	p := program(body(later(1, 0), set(2, 3), say(2)), body(throw(0)))
	for _, f := range []int{math.MinInt, -1, 0, 1, 2, 6, 1 << 32, math.MaxInt} {
		for _, arg := range []int{math.MinInt, -32769, -32768, 0, 32767, 32768, 65536, math.MaxInt} {
			for _, fuel := range []int{math.MinInt, -1, 0, 4, 200, 201, 1 << 32, math.MaxInt} {
				valid := (f == 0 || f == 1) && -32768 <= arg && arg <= 32767 && 0 <= fuel && fuel <= 200
				want := [3]int{}
				if valid && f == 0 && fuel > 0 {
					want = [3]int{1, 1, 1}
				}
				if ok, size := cleanupAnswers(p, f, arg, fuel, arg); ok != [3]bool{valid, valid, valid} || size != want {
					t.Error("of a run", f, arg, fuel, ok, size)
				}
			}
		}
	}
}

func TestPromise7RangesRefuseOthers(t *testing.T) {
	p := program(body(set(2, 3), say(2)), nil)
	for _, low := range rangeEnds {
		for _, high := range rangeEnds {
			valid := validRange(low, high)
			for _, f := range []int{math.MinInt, -1, 0, 1, 2, math.MaxInt} {
				for _, fuel := range []int{math.MinInt, -1, 0, 1, 2, 200, 201, math.MaxInt} {
					want := valid && (f == 0 || f == 1) && 0 <= fuel && fuel <= 200
					count := 0
					if want && f == 0 && fuel > 1 {
						count = high - low + 1
					}
					if args, ok := impl.LeakingArgs(p, f, low, high, fuel); ok != want || len(args) != count {
						t.Error("range", f, low, high, fuel, ok, len(args))
					}
				}
			}
		}
	}
}

func TestPromise13WhatIsNoProgramLeaksNothing(t *testing.T) {
	for i, p := range invalidPrograms() {
		for _, f := range []int{math.MinInt, -1, 0, 1, 5, 6, math.MaxInt} {
			for _, high := range []int{-1, 0, 1, 100, 101} {
				if ok, size := cleanupAnswers(p, f, 0, 9, high); ok != [3]bool{} || size != [3]int{} {
					t.Error("a run of no program", i, f, ok, size)
				}
			}
		}
	}
}

func TestPromise13CleanupsModifyNothing(t *testing.T) {
	lists := append(randomEntries(76, 400), listsOf([]int{1, -1, 2, 32768}, 4)...)
	for _, list := range append(lists, nil, make([]int, 61), []int{math.MinInt, 1}) {
		whole := append(slices.Clone(list), 5, -5, 5)
		given, before := whole[:len(list)], slices.Clone(whole)
		one, first := tellEntries(given)
		two, second := tellEntries(given)
		if !sameToldEntries(one, two) || first != second || !slices.Equal(whole, before) {
			t.Fatalf("modified %v: %v", list, whole)
		}
	}
	for _, p := range append(openingPrograms(76, 300), invalidPrograms()[:22]...) {
		checkUnmodified(t, p, func(given impl.Program) {
			for f := -1; f <= len(p.Functions); f++ {
				one, first := cleanupAnswers(given, f, 1, 60, 3)
				two, second := cleanupAnswers(given, f, 1, 60, 3)
				if one != two || first != second {
					t.Fatalf("other answers of %s", textByRule(p))
				}
			}
		})
	}
}

func TestPromise13ListsOfCleanupsAreApart(t *testing.T) {
	p := program(body(say(0), later(1, 0), set(2, 3), say(2)), body(throw(0)))
	list, tidy := []int{-9, 1, 2, 2, 3, -3}, []int{1, 2, 0, -1, -2}
	checkListsApart(t,
		func() ([]int, bool) { return impl.OpenAtEnd(list) },
		func() ([]int, bool) { return impl.FaultsOf(list) },
		func() ([]int, bool) { return impl.MendEntries(list) },
		func() ([]int, bool) { return impl.MendEntries(tidy) },
		func() ([]int, bool) { return impl.LeaksOf(p, 0, 4, 99) },
		func() ([]int, bool) { return impl.LeakingArgs(p, 0, 4, 9, 99) },
		func() ([]int, bool) { return impl.CleanupFails(p, 0, 4, 99) },
	)
	spans, _ := impl.SpansOf(list)
	clear(spans[:cap(spans)])
	if again, ok := impl.SpansOf(list); !ok || !slices.Equal(again, pairs{{1, -1}, {2, -1}, {3, -1}, {4, 5}}) {
		t.Error("spans share memory", again)
	}
	if !slices.Equal(list, []int{-9, 1, 2, 2, 3, -3}) || !slices.Equal(tidy, []int{1, 2, 0, -1, -2}) {
		t.Error("results share memory with the entries", list, tidy)
	}
}

func TestPromise13CleanupProgramsAreApart(t *testing.T) {
	checkProgramsApart(t, program(nil),
		func() (impl.Program, bool) { return impl.CleanupProgram(4, 5) },
		func() (impl.Program, bool) { return impl.CleanupProgram(4, 4) },
	)
}
