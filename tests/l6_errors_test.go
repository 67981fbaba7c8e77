package tests

import (
	"fmt"
	"math"
	"math/rand/v2"
	"slices"
	"strings"
	"testing"

	"loop.example/g01183/impl"
)

// The errors of test Errors, by short names.
func plainOf(code int) impl.ErrorNode { return impl.ErrorNode{Kind: impl.ErrorPlain, Code: code} }
func likeOf(code int) impl.ErrorNode  { return impl.ErrorNode{Kind: impl.ErrorLike, Code: code} }
func joinOf(parts ...int) impl.ErrorNode {
	return impl.ErrorNode{Kind: impl.ErrorJoin, Parts: parts}
}
func wrapOf(code int, part int) impl.ErrorNode {
	return impl.ErrorNode{Kind: impl.ErrorWrap, Code: code, Parts: []int{part}}
}

func errorsOf(nodes ...impl.ErrorNode) impl.Errors { return impl.Errors{Nodes: nodes} }

// longestWalk and longestText are the bounds of chapter 6 that have no names.
const longestWalk, longestText = 200, 400

// toldError is what the functions of chapter 6 tell of an error, by targets, other errors and
// kinds where they need these. What it does not serve as has -1, and a text that is too long is
// empty.
type toldError struct {
	walk, parts, leaves, ways []int
	is, alike                 []bool
	serves                    [5]int
	text                      string
	depth                     int
}

func sameToldError(a toldError, b toldError) bool {
	return slices.Equal(a.walk, b.walk) && slices.Equal(a.parts, b.parts) && slices.Equal(a.leaves, b.leaves) && slices.Equal(a.ways, b.ways) &&
		slices.Equal(a.is, b.is) && slices.Equal(a.alike, b.alike) && a.serves == b.serves && a.text == b.text && a.depth == b.depth
}

// tellError asks all functions of chapter 6 that tell of an error, of one that is valid.
func tellError(t *testing.T, e impl.Errors, n int) toldError {
	t.Helper()
	told := toldError{serves: [5]int{-1, -1, -1, -1, -1}}
	var ok [7]bool
	told.walk, ok[0] = impl.WalkOf(e, n)
	told.parts, ok[1] = impl.UnwrapError(e, n)
	told.leaves, ok[2] = impl.LeavesOf(e, n)
	told.depth, ok[3] = impl.DepthOf(e, n)
	ok[4], ok[5], ok[6] = true, true, true
	for other := range e.Nodes {
		ways, one := impl.CountWays(e, n, other)
		is, two := impl.IsError(e, n, other)
		alike, three := impl.AreAlike(e, n, other)
		ok[4], ok[5], ok[6] = ok[4] && one, ok[5] && two, ok[6] && three
		told.ways, told.is, told.alike = append(told.ways, ways), append(told.is, is), append(told.alike, alike)
	}
	if ok != [7]bool{true, true, true, true, true, true, true} {
		t.Fatalf("error %d of %v: %v", n, e, ok)
	}
	for kind := impl.ErrorPlain; kind <= impl.ErrorLike; kind++ {
		by, serves := impl.ServesAs(e, n, kind)
		if serves {
			told.serves[kind] = by
		} else if by != 0 {
			t.Fatalf("error %d of %v serves not as %d, by %d", n, e, kind, by)
		}
	}
	text, written := impl.ErrorText(e, n)
	if written == (text == "") {
		t.Fatalf("error %d of %v: %q %t", n, e, text, written)
	}
	told.text = text
	return told
}

// modelErrors tells of all errors what chapter 6 says, each from what is told of its Parts.
func modelErrors(e impl.Errors) []toldError {
	all := make([]toldError, len(e.Nodes))
	for n := len(e.Nodes) - 1; n >= 0; n-- {
		node := e.Nodes[n]
		told := toldError{walk: []int{n}, parts: node.Parts, ways: make([]int, len(e.Nodes)), is: make([]bool, len(e.Nodes)),
			alike: make([]bool, len(e.Nodes)), serves: [5]int{-1, -1, -1, -1, -1}, depth: 1}
		told.ways[n] = 1
		told.serves[node.Kind] = n
		for _, part := range node.Parts {
			told.walk = append(told.walk, all[part].walk...)
			told.leaves = append(told.leaves, all[part].leaves...)
			told.depth = max(told.depth, all[part].depth+1)
			for kind, by := range all[part].serves {
				if told.serves[kind] == -1 {
					told.serves[kind] = by
				}
			}
			for other := range e.Nodes {
				told.ways[other] += all[part].ways[other]
				told.is[other] = told.is[other] || all[part].is[other]
			}
		}
		if len(node.Parts) == 0 {
			told.leaves = []int{n}
		}
		slices.Sort(told.leaves)
		told.leaves = slices.Compact(told.leaves)
		told.walk = told.walk[:min(len(told.walk), longestWalk)]
		for other, target := range e.Nodes {
			likes := node.Kind == impl.ErrorLike && target.Kind == impl.ErrorPlain && target.Code == node.Code
			told.is[other] = told.is[other] || other == n || likes
		}
		told.text = textByModel(node, all)
		all[n] = told
	}
	tellAlike(e, all)
	return all
}

// textByModel writes an error of which all has the Parts, or returns an empty text if it is too long.
func textByModel(node impl.ErrorNode, all []toldError) string {
	var parts []string
	for _, part := range node.Parts {
		if all[part].text == "" {
			return ""
		}
		parts = append(parts, all[part].text)
	}
	text := map[int]string{
		impl.ErrorPlain: fmt.Sprintf("e%d", node.Code), impl.ErrorLike: fmt.Sprintf("like%d", node.Code),
		impl.ErrorWrap: fmt.Sprintf("w%d: %s", node.Code, strings.Join(parts, "")), impl.ErrorJoin: fmt.Sprintf("[%s]", strings.Join(parts, "; ")),
	}[node.Kind]
	if len(text) > longestText {
		return ""
	}
	return text
}

// tellAlike writes down which errors are alike, from the last ones on.
func tellAlike(e impl.Errors, all []toldError) {
	for a := len(e.Nodes) - 1; a >= 0; a-- {
		for b, other := range e.Nodes {
			node := e.Nodes[a]
			all[a].alike[b] = node.Kind == other.Kind && node.Code == other.Code && len(node.Parts) == len(other.Parts)
			for i := range node.Parts {
				all[a].alike[b] = all[a].alike[b] && all[node.Parts[i]].alike[other.Parts[i]]
			}
		}
	}
}

// checkErrors compares what is told of all errors with the model, and with what chapter 6
// guarantees.
func checkErrors(t *testing.T, e impl.Errors) []toldError {
	t.Helper()
	if !impl.AreErrors(e) {
		t.Fatalf("no errors: %v", e)
	}
	want := modelErrors(e)
	for n := range e.Nodes {
		if got := tellError(t, e, n); !sameToldError(got, want[n]) {
			t.Fatalf("error %d of %v: %v, not %v", n, e, got, want[n])
		}
		if len(want[n].walk) < longestWalk {
			checkWholeWalk(t, e, n, want[n])
		}
		for target, ways := range want[n].ways {
			for other := range e.Nodes {
				if ways > 0 && want[target].is[other] && !want[n].is[other] {
					t.Fatalf("error %d of %v is %d, but not %d", n, e, target, other)
				}
			}
		}
	}
	return want
}

// checkWholeWalk compares what is told of an error with its walk, of which all is told.
func checkWholeWalk(t *testing.T, e impl.Errors, n int, told toldError) {
	t.Helper()
	for target, node := range e.Nodes {
		is := slices.ContainsFunc(told.walk, func(m int) bool {
			return m == target || e.Nodes[m].Kind == impl.ErrorLike && node.Kind == impl.ErrorPlain && e.Nodes[m].Code == node.Code
		})
		if is != told.is[target] || told.ways[target] != countNumber(told.walk, target) {
			t.Fatalf("error %d of %v and %d: %v", n, e, target, told)
		}
	}
	for kind := impl.ErrorPlain; kind <= impl.ErrorLike; kind++ {
		by := -1
		if at := slices.IndexFunc(told.walk, func(m int) bool { return e.Nodes[m].Kind == kind }); at >= 0 {
			by = told.walk[at]
		}
		if by != told.serves[kind] {
			t.Fatalf("error %d of %v serves as %d: %v", n, e, kind, told)
		}
	}
	leaves := slices.DeleteFunc(slices.Clone(told.walk), func(m int) bool { return len(e.Nodes[m].Parts) > 0 })
	slices.Sort(leaves)
	if !slices.Equal(slices.Compact(leaves), told.leaves) {
		t.Fatalf("leaves of error %d of %v: %v", n, e, told)
	}
}

// randomErrors returns valid Errors, always the same ones for the same seed: many of their errors
// are reached in several ways, and some have walks that are far too long to be told.
func randomErrors(seed uint64, count int) []impl.Errors {
	r := rand.New(rand.NewPCG(seed, 6))
	codes := []int{0, 1, 7, 7, 99}
	all := make([]impl.Errors, count)
	for i := range all {
		size := 1 + r.IntN(impl.MaxErrors)
		most := []int{2, 3, 4, impl.MaxErrors}[r.IntN(4)]
		far := []int{2, 4, impl.MaxErrors}[r.IntN(3)]
		for n := range size {
			behind := min(far, size-1-n)
			kind := []int{1, 2, 2, 3, 3, 3, 3, 4}[r.IntN(8)]
			node := impl.ErrorNode{Kind: kind, Code: codes[r.IntN(len(codes))]}
			switch {
			case kind == impl.ErrorPlain || kind == impl.ErrorLike:
			case behind == 0:
				node.Kind = impl.ErrorPlain
			case kind == impl.ErrorWrap:
				node.Parts = []int{n + 1 + r.IntN(behind)}
			default:
				node.Code = 0
				for range 1 + r.IntN(most) {
					node.Parts = append(node.Parts, n+1+r.IntN(behind))
				}
			}
			all[i].Nodes = append(all[i].Nodes, node)
		}
	}
	return all
}

// ladder returns Errors of MaxErrors errors: those with the leaf as the last one, and each other
// one an ErrorJoin of MaxErrors Parts, all of which are the next one.
func ladder(leaf impl.ErrorNode) impl.Errors {
	var e impl.Errors
	for n := range impl.MaxErrors - 1 {
		e.Nodes = append(e.Nodes, joinOf(slices.Repeat([]int{n + 1}, impl.MaxErrors)...))
	}
	return errorsOf(append(e.Nodes, leaf)...)
}

// fan returns Errors of MaxErrors errors: those with the leaf as the last one, and each other one
// an ErrorJoin of all that are behind it, the last one or the next one of them first.
func fan(leaf impl.ErrorNode, lastFirst bool) impl.Errors {
	var e impl.Errors
	for n := range impl.MaxErrors - 1 {
		parts := numbers(n+1, impl.MaxErrors-1)
		if lastFirst {
			slices.Reverse(parts)
		}
		e.Nodes = append(e.Nodes, joinOf(parts...))
	}
	return errorsOf(append(e.Nodes, leaf)...)
}

// twins returns Errors of pairs of errors: both of each pair are ErrorJoins of MaxErrors Parts,
// which are both of the next pair in turn, and those of the last pair are these.
func twins(one impl.ErrorNode, two impl.ErrorNode) impl.Errors {
	var e impl.Errors
	for n := 0; n < impl.MaxErrors-2; n += 2 {
		parts := slices.Repeat([]int{n + 2, n + 3}, impl.MaxErrors/2)
		e.Nodes = append(e.Nodes, joinOf(parts...), joinOf(slices.Clone(parts)...))
	}
	return errorsOf(append(e.Nodes, one, two)...)
}

// longErrors have walks that no program could go through: some have more than 12 to the power of
// 11 numbers.
func longErrors() []impl.Errors {
	mixed := ladder(likeOf(7))
	mixed.Nodes[5] = wrapOf(3, 7)
	mixed.Nodes[6] = plainOf(7)
	mixed.Nodes[8].Parts[4] = 11
	return []impl.Errors{ladder(plainOf(7)), ladder(likeOf(0)), mixed, fan(plainOf(99), false), fan(plainOf(7), true), fan(likeOf(7), true),
		twins(plainOf(7), plainOf(7)), twins(plainOf(7), plainOf(8)), twins(plainOf(7), likeOf(7))}
}

func TestPromise6EachSmallErrorsAreAsTheModel(t *testing.T) {
	leaves := []impl.ErrorNode{plainOf(0), plainOf(7), likeOf(0), likeOf(7)}
	// with returns the nodes that may be ahead of some, in Errors of four.
	with := func(n int, most int) []impl.ErrorNode {
		all := slices.Clone(leaves)
		for part := n + 1; part <= 3; part++ {
			all = append(all, wrapOf(0, part), wrapOf(7, part))
		}
		for _, parts := range listsOf(numbers(n+1, 3), most) {
			all = append(all, joinOf(parts...))
		}
		return all
	}
	count := 0
	for _, first := range with(0, 3) {
		for _, second := range with(1, 2) {
			for _, third := range with(2, 2) {
				for _, last := range leaves {
					checkErrors(t, errorsOf(first, second, third, last))
					count++
				}
			}
		}
	}
	if count < 10000 {
		t.Error("too few errors", count)
	}
}

func TestPromise6RandomErrorsAreAsTheModel(t *testing.T) {
	var cut, tooLong, alike, several, liked, notLeast int
	for _, e := range append(randomErrors(61, 5000), longErrors()...) {
		for n, told := range checkErrors(t, e) {
			if len(told.walk) == longestWalk {
				cut++
			}
			if told.text == "" {
				tooLong++
			}
			for other := range e.Nodes {
				if told.alike[other] && other != n && len(told.parts) > 0 {
					alike++
				}
				if told.ways[other] > 1 {
					several++
				}
				if told.is[other] && told.ways[other] == 0 {
					liked++
				}
			}
			for kind, by := range told.serves {
				if least := slices.IndexFunc(e.Nodes, func(node impl.ErrorNode) bool { return node.Kind == kind }); by > 0 && least >= n && least != by {
					notLeast++
				}
			}
		}
	}
	for i, count := range []int{cut, tooLong, alike, several, liked, notLeast} {
		if count < 500 {
			t.Error("too few of these", i, count)
		}
	}
}

func TestPromise6AnErrorIsAllThatItsPartsAre(t *testing.T) {
	checked := 0
	for _, e := range append(randomErrors(62, 1500), longErrors()...) {
		for n, node := range e.Nodes {
			if is, ok := impl.IsError(e, n, n); !is || !ok {
				t.Fatalf("error %d of %v is not itself", n, e)
			}
			for target := range e.Nodes {
				is, _ := impl.IsError(e, n, target)
				for _, part := range node.Parts {
					partIs, ok := impl.IsError(e, part, target)
					if !ok || partIs && !is {
						t.Fatalf("error %d of %v is not %d, but its part %d is", n, e, target, part)
					}
					checked++
				}
			}
			for kind := impl.ErrorPlain; kind <= impl.ErrorLike; kind++ {
				by, serves := impl.ServesAs(e, n, kind)
				if !serves {
					continue
				}
				if ways, ok := impl.CountWays(e, n, by); ways < 1 || !ok || e.Nodes[by].Kind != kind {
					t.Fatalf("error %d of %v serves as %d by %d", n, e, kind, by)
				}
			}
		}
	}
	if checked < 10000 {
		t.Error("too few parts", checked)
	}
}

// checkToldError compares an error with all that is to be told of it.
func checkToldError(t *testing.T, name string, e impl.Errors, n int, want toldError) {
	t.Helper()
	checkErrors(t, e)
	if got := tellError(t, e, n); !sameToldError(got, want) {
		t.Errorf("%s: %v, not %v", name, got, want)
	}
}

func TestPromise6AnErrorAlone(t *testing.T) {
	checkToldError(t, "plain", errorsOf(plainOf(0)), 0,
		toldError{walk: []int{0}, leaves: []int{0}, ways: []int{1}, is: []bool{true}, alike: []bool{true}, serves: [5]int{-1, 0, -1, -1, -1}, text: "e0", depth: 1})
	checkToldError(t, "like", errorsOf(likeOf(99)), 0,
		toldError{walk: []int{0}, leaves: []int{0}, ways: []int{1}, is: []bool{true}, alike: []bool{true}, serves: [5]int{-1, -1, -1, -1, 0}, text: "like99", depth: 1})
	checkToldError(t, "wrap", errorsOf(wrapOf(10, 1), plainOf(9)), 0,
		toldError{walk: []int{0, 1}, parts: []int{1}, leaves: []int{1}, ways: []int{1, 1}, is: []bool{true, true}, alike: []bool{true, false},
			serves: [5]int{-1, 1, 0, -1, -1}, text: "w10: e9", depth: 2})
	checkToldError(t, "join of one", errorsOf(joinOf(1), plainOf(9)), 0,
		toldError{walk: []int{0, 1}, parts: []int{1}, leaves: []int{1}, ways: []int{1, 1}, is: []bool{true, true}, alike: []bool{true, false},
			serves: [5]int{-1, 1, -1, 0, -1}, text: "[e9]", depth: 2})
	// What is wrapped is not what wraps it.
	checkToldError(t, "wrapped", errorsOf(wrapOf(10, 1), plainOf(9)), 1,
		toldError{walk: []int{1}, leaves: []int{1}, ways: []int{0, 1}, is: []bool{false, true}, alike: []bool{false, true}, serves: [5]int{-1, 1, -1, -1, -1}, text: "e9", depth: 1})
}

func TestPromise6ErrorsThatAreReachedInSeveralWays(t *testing.T) {
	diamond := errorsOf(joinOf(2, 1), wrapOf(5, 3), wrapOf(5, 3), plainOf(7))
	checkToldError(t, "a diamond", diamond, 0, toldError{walk: []int{0, 2, 3, 1, 3}, parts: []int{2, 1}, leaves: []int{3}, ways: []int{1, 1, 1, 2},
		is: []bool{true, true, true, true}, alike: []bool{true, false, false, false}, serves: [5]int{-1, 3, 2, 0, -1}, text: "[w5: e7; w5: e7]", depth: 3})
	// Both sides are alike, but neither is the other one.
	checkToldError(t, "a side", diamond, 1, toldError{walk: []int{1, 3}, parts: []int{3}, leaves: []int{3}, ways: []int{0, 1, 0, 1},
		is: []bool{false, true, false, true}, alike: []bool{false, true, true, false}, serves: [5]int{-1, 3, 1, -1, -1}, text: "w5: e7", depth: 2})
	// The ways of a part of a part are multiplied, and those of other parts are added.
	many := errorsOf(joinOf(1, 1, 3, 1), joinOf(3, 2, 3), wrapOf(1, 3), likeOf(4), plainOf(4))
	checkToldError(t, "many", many, 0, toldError{walk: []int{0, 1, 3, 2, 3, 3, 1, 3, 2, 3, 3, 3, 1, 3, 2, 3, 3}, parts: []int{1, 1, 3, 1}, leaves: []int{3}, ways: []int{1, 3, 3, 10, 0},
		is: []bool{true, true, true, true, true}, alike: []bool{true, false, false, false, false}, serves: [5]int{-1, -1, 2, 0, 3},
		text: "[[like4; w1: like4; like4]; [like4; w1: like4; like4]; like4; [like4; w1: like4; like4]]", depth: 4})
	// The longest way counts for the depth, wherever it is.
	for i, parts := range [][]int{{1, 3, 2}, {3, 2, 1}, {2, 1, 3}, {1}} {
		e := errorsOf(joinOf(parts...), wrapOf(1, 2), joinOf(3), plainOf(4))
		if depth, ok := impl.DepthOf(e, 0); depth != 4 || !ok {
			t.Error("depth", i, depth)
		}
		checkErrors(t, e)
	}
}

func TestPromise6TheFirstOfTheWalkServes(t *testing.T) {
	// The walk goes down ahead of going on, and through the Parts in their order.
	down := errorsOf(joinOf(1, 2), wrapOf(1, 3), likeOf(2), likeOf(3))
	if by, ok := impl.ServesAs(down, 0, impl.ErrorLike); by != 3 || !ok {
		t.Error("down", by, ok)
	}
	turned := errorsOf(joinOf(4, 3, 2, 1), plainOf(1), likeOf(1), wrapOf(1, 5), joinOf(7), likeOf(2), plainOf(2), plainOf(3))
	for kind, want := range map[int]int{impl.ErrorPlain: 7, impl.ErrorWrap: 3, impl.ErrorJoin: 0, impl.ErrorLike: 5} {
		if by, ok := impl.ServesAs(turned, 0, kind); by != want || !ok {
			t.Error("turned round", kind, by, ok)
		}
	}
	// An error serves by itself, if it can, whatever its Parts are.
	for _, e := range []impl.Errors{errorsOf(wrapOf(1, 1), wrapOf(2, 2), plainOf(3)), errorsOf(joinOf(1, 1), joinOf(2), plainOf(3))} {
		for n := range 2 {
			if by, ok := impl.ServesAs(e, n, e.Nodes[n].Kind); by != n || !ok {
				t.Error("itself", e, n, by, ok)
			}
		}
		checkErrors(t, e)
	}
	// What is liked serves as nothing, as it is in no walk.
	liked := errorsOf(likeOf(5), plainOf(5))
	if by, ok := impl.ServesAs(liked, 0, impl.ErrorPlain); by != 0 || ok {
		t.Error("by what it likes", by, ok)
	}
	checkErrors(t, down)
	checkErrors(t, turned)
	checkErrors(t, liked)
}

func TestPromise6ErrorLikes(t *testing.T) {
	// They like all ErrorPlains with their Code, ahead of them too, and nothing else.
	e := errorsOf(plainOf(7), wrapOf(7, 3), joinOf(4), likeOf(7), likeOf(8), likeOf(7), plainOf(7), plainOf(8), wrapOf(7, 9), plainOf(0))
	for n, want := range [][]int{{0}, {0, 1, 3, 6}, {2, 4, 7}, {0, 3, 6}, {4, 7}, {0, 5, 6}, {6}, {7}, {8, 9}, {9}} {
		for target := range e.Nodes {
			if is, ok := impl.IsError(e, n, target); is != slices.Contains(want, target) || !ok {
				t.Error("is", n, target, is, ok)
			}
		}
	}
	checkErrors(t, e)
	// The Code 0 of an ErrorJoin is none that is liked, and those at the bounds are.
	bounds := errorsOf(likeOf(0), likeOf(99), joinOf(5), wrapOf(0, 4), plainOf(0), plainOf(99))
	for target, want := range []bool{true, false, false, false, true, false} {
		if is, ok := impl.IsError(bounds, 0, target); is != want || !ok {
			t.Error("is of 0", target, is, ok)
		}
	}
	for target, want := range []bool{false, true, false, false, false, true} {
		if is, ok := impl.IsError(bounds, 1, target); is != want || !ok {
			t.Error("is of 99", target, is, ok)
		}
	}
	checkErrors(t, bounds)
	// An ErrorLike is not alike an ErrorPlain, and is a leaf.
	leaves := errorsOf(joinOf(2, 1, 3), likeOf(7), plainOf(7), likeOf(7))
	checkToldError(t, "leaves", leaves, 0, toldError{walk: []int{0, 2, 1, 3}, parts: []int{2, 1, 3}, leaves: []int{1, 2, 3}, ways: []int{1, 1, 1, 1},
		is: []bool{true, true, true, true}, alike: []bool{true, false, false, false}, serves: [5]int{-1, 2, -1, 0, 1}, text: "[e7; like7; like7]", depth: 2})
	if alike, ok := impl.AreAlike(leaves, 1, 2); alike || !ok {
		t.Error("alike an ErrorPlain")
	}
}

func TestPromise6ErrorJoinsWithTheSamePartSeveralTimes(t *testing.T) {
	e := errorsOf(joinOf(2, 2, 2), joinOf(2, 2), plainOf(7))
	checkToldError(t, "three times", e, 0, toldError{walk: []int{0, 2, 2, 2}, parts: []int{2, 2, 2}, leaves: []int{2}, ways: []int{1, 0, 3},
		is: []bool{true, false, true}, alike: []bool{true, false, false}, serves: [5]int{-1, 2, -1, 0, -1}, text: "[e7; e7; e7]", depth: 2})
	// It is alike with others that are alike in their places.
	same := errorsOf(joinOf(4, 4), joinOf(5, 4), joinOf(4, 5, 4), joinOf(4), plainOf(7), plainOf(7), plainOf(8), joinOf(8, 9), plainOf(8), plainOf(7), joinOf(11), plainOf(7))
	for a, want := range [][]int{{0, 1}, {0, 1}, {2}, {3, 10}, {4, 5, 9, 11}, {4, 5, 9, 11}, {6, 8}, {7}, {6, 8}, {4, 5, 9, 11}, {3, 10}, {4, 5, 9, 11}} {
		for b := range same.Nodes {
			if alike, ok := impl.AreAlike(same, a, b); alike != slices.Contains(want, b) || !ok {
				t.Error("alike", a, b, alike, ok)
			}
		}
	}
	checkErrors(t, same)
	order := errorsOf(joinOf(4, 5), joinOf(5, 4), joinOf(4, 6), wrapOf(1, 4), plainOf(1), plainOf(2), plainOf(2), wrapOf(2, 8), plainOf(1), wrapOf(1, 10), plainOf(1))
	for a, want := range [][]int{{0, 2}, {1}, {0, 2}, {3, 9}} {
		for b := range order.Nodes {
			if alike, ok := impl.AreAlike(order, a, b); alike != slices.Contains(want, b) || !ok {
				t.Error("alike in order", a, b, alike, ok)
			}
		}
	}
	checkErrors(t, order)
	// The most Parts, all of them the same error.
	full := errorsOf(joinOf(slices.Repeat([]int{1}, impl.MaxErrors)...), plainOf(7))
	if ways, ok := impl.CountWays(full, 0, 1); ways != impl.MaxErrors || !ok {
		t.Error("ways", ways, ok)
	}
	if text, ok := impl.ErrorText(full, 0); text != "["+strings.Repeat("e7; ", 11)+"e7]" || !ok {
		t.Error("text", text, ok)
	}
	checkErrors(t, full)
}

func TestPromise6WalksThatAreTooLong(t *testing.T) {
	// 1 has 157 numbers in its walk, and 2 has 13.
	for size := 197; size <= 204; size++ {
		e := errorsOf(joinOf(append([]int{1, 2, 2, 2}, slices.Repeat([]int{4}, size-197)...)...),
			joinOf(slices.Repeat([]int{2}, 12)...), joinOf(slices.Repeat([]int{3}, 12)...), plainOf(7), likeOf(7))
		ten := append([]int{2}, slices.Repeat([]int{3}, 12)...)
		whole := append([]int{0, 1}, slices.Repeat(ten, 15)...)
		whole = append(whole, slices.Repeat([]int{4}, size-197)...)
		walk, ok := impl.WalkOf(e, 0)
		if !ok || len(whole) != size || !slices.Equal(walk, whole[:min(size, longestWalk)]) {
			t.Error("walk", size, len(whole), walk, ok)
		}
		// All of the walk counts, also what is not told of it.
		like, one := impl.CountWays(e, 0, 4)
		leaves, two := impl.LeavesOf(e, 0)
		if size > 197 && (like != size-197 || !one || !slices.Equal(leaves, []int{3, 4}) || !two) {
			t.Error("behind the walk", size, like, leaves)
		}
		checkErrors(t, e)
	}
	// What an error serves by and is may be far behind what is told.
	far := errorsOf(joinOf(1, 8), joinOf(2, 2, 2, 2, 2, 2), joinOf(3, 3, 3, 3, 3, 3), joinOf(4, 4, 4, 4, 4, 4), joinOf(5, 5, 5), plainOf(1), plainOf(2), plainOf(3), wrapOf(4, 9), likeOf(2))
	for kind, want := range map[int]int{impl.ErrorPlain: 5, impl.ErrorWrap: 8, impl.ErrorJoin: 0, impl.ErrorLike: 9} {
		if by, ok := impl.ServesAs(far, 0, kind); by != want || !ok {
			t.Error("serves", kind, by, ok)
		}
	}
	for target, want := range []bool{true, true, true, true, true, true, true, false, true, true} {
		if is, ok := impl.IsError(far, 0, target); is != want || !ok {
			t.Error("is", target, is, ok)
		}
	}
	if walk, _ := impl.WalkOf(far, 0); slices.Contains(walk, 8) || len(walk) != longestWalk {
		t.Error("not far", walk)
	}
	checkErrors(t, far)
}

func TestPromise6WalksThatNoProgramCouldGoThrough(t *testing.T) {
	e := ladder(plainOf(7))
	ways := 1
	for target := range e.Nodes {
		if got, ok := impl.CountWays(e, 0, target); got != ways || !ok {
			t.Error("ways", target, got, ok)
		}
		if got, ok := impl.CountWays(e, target, 0); got != 0 && target > 0 || !ok {
			t.Error("ways back", target, got, ok)
		}
		ways *= impl.MaxErrors
	}
	if most, ok := impl.CountWays(e, 0, 11); most != 743008370688 || !ok {
		t.Error("the most ways", most, ok)
	}
	walk, one := impl.WalkOf(e, 0)
	depth, two := impl.DepthOf(e, 0)
	leaves, three := impl.LeavesOf(e, 0)
	text, four := impl.ErrorText(e, 0)
	is, five := impl.IsError(e, 1, 0)
	pruned, six := impl.PruneErrors(e, 0)
	if !one || !two || !three || four || !five || !six {
		t.Error("a ladder", one, two, three, four, five, six)
	}
	start := append(numbers(0, 11), slices.Repeat([]int{11}, 11)...)
	start = append(append(start, 10), slices.Repeat([]int{11}, 12)...)
	if len(walk) != longestWalk || !slices.Equal(walk[:len(start)], start) || depth != impl.MaxErrors || !slices.Equal(leaves, []int{11}) || text != "" || is || !sameErrors(pruned, e) {
		t.Error("a ladder", walk, depth, leaves, text, is, pruned)
	}
	// Through the fan, each error behind the next one is reached in twice as many ways.
	for _, lastFirst := range []bool{false, true} {
		e := fan(plainOf(7), lastFirst)
		for target := 2; target < impl.MaxErrors; target++ {
			if ways, ok := impl.CountWays(e, 0, target); ways != 1<<(target-1) || !ok {
				t.Error("ways of a fan", target, ways, ok)
			}
		}
		checkErrors(t, e)
	}
	for _, all := range []struct {
		one, two impl.ErrorNode
		alike    bool
	}{{plainOf(7), plainOf(7), true}, {plainOf(7), plainOf(8), false}, {likeOf(7), likeOf(7), true}, {likeOf(7), plainOf(7), false}} {
		e := twins(all.one, all.two)
		// Those with Parts are alike in any case, as both of a pair have the same Parts.
		for n := 0; n < impl.MaxErrors; n += 2 {
			if alike, ok := impl.AreAlike(e, n, n+1); alike != (all.alike || n < impl.MaxErrors-2) || !ok {
				t.Error("twins", all, n, alike, ok)
			}
		}
		checkErrors(t, e)
	}
	// Apart from the first pair on, down to leaves that are alike or not.
	for _, code := range []int{7, 8} {
		apart := twins(plainOf(7), plainOf(code))
		for n, node := range apart.Nodes {
			for i := range node.Parts {
				node.Parts[i] = n + 2
			}
		}
		if alike, ok := impl.AreAlike(apart, 0, 1); alike != (code == 7) || !ok {
			t.Error("apart", code, alike, ok)
		}
		checkErrors(t, apart)
	}
}

func TestPromise6TextsOfAsManyBytes(t *testing.T) {
	// The text of 1 has 38 bytes, and that of 0 between 399 and 402.
	for ones := range 4 {
		tail := joinOf(append(slices.Repeat([]int{3}, 3-ones), slices.Repeat([]int{4}, 5+ones)...)...)
		e := errorsOf(joinOf(append(slices.Repeat([]int{1}, 9), 2)...), joinOf(3, 3, 4, 4, 4, 4, 4, 4), tail, plainOf(7), plainOf(77))
		size := 399 + ones
		want := "[" + strings.Repeat("[e7; e7; e77; e77; e77; e77; e77; e77]; ", 9) + "[" + strings.Repeat("e7; ", 3-ones) + strings.Repeat("e77; ", 4+ones) + "e77]]"
		text, ok := impl.ErrorText(e, 0)
		if len(want) != size || ok != (size <= longestText) || ok && text != want || !ok && text != "" {
			t.Error("text", size, len(want), text, ok)
		}
		checkErrors(t, e)
		// A text that is too long makes those around it too long.
		for _, first := range []impl.ErrorNode{wrapOf(1, 0), joinOf(0)} {
			around := withAhead(e, first)
			if text, ok := impl.ErrorText(around, 0); ok || text != "" {
				t.Error("around", size, text, ok)
			}
			checkErrors(t, around)
		}
	}
	// What is ahead of a text is part of it, also if it is an ErrorWrap that makes it too long.
	for size := 393; size <= 398; size++ {
		e := errorOfSize(t, size)
		for ahead, first := range map[int]impl.ErrorNode{4: wrapOf(5, 0), 5: wrapOf(55, 0), 2: joinOf(0)} {
			more := withAhead(e, first)
			text, ok := impl.ErrorText(more, 0)
			if ok != (size+ahead <= longestText) || ok && len(text) != size+ahead || !ok && text != "" {
				t.Error("ahead", size, ahead, text, ok)
			}
			checkErrors(t, more)
		}
	}
	// Each Code is written as it is.
	for code := range impl.MaxCode + 1 {
		e := errorsOf(joinOf(1, 2, 3), wrapOf(code, 2), plainOf(code), likeOf(code))
		if text, ok := impl.ErrorText(e, 0); text != fmt.Sprintf("[w%d: e%d; e%d; like%d]", code, code, code, code) || !ok {
			t.Error("code", code, text, ok)
		}
	}
}

// errorOfSize returns Errors of which the text of 0 has a number of bytes from 393 on.
func errorOfSize(t *testing.T, size int) impl.Errors {
	t.Helper()
	// Nine Parts of 38 bytes, and one of 4 bytes for each e7 and 5 for each e77 in it.
	rest := size - 362
	for long := range 9 {
		if short := (rest - 5*long) / 4; rest-5*long == 4*short && short >= 0 {
			tail := joinOf(append(slices.Repeat([]int{3}, short), slices.Repeat([]int{4}, long)...)...)
			e := errorsOf(joinOf(append(slices.Repeat([]int{1}, 9), 2)...), joinOf(3, 3, 4, 4, 4, 4, 4, 4), tail, plainOf(7), plainOf(77))
			if text, ok := impl.ErrorText(e, 0); len(text) != size || !ok {
				t.Fatal("no text of", size, text, ok)
			}
			return e
		}
	}
	t.Fatal("no errors for a text of", size)
	return impl.Errors{}
}

func sameErrors(a impl.Errors, b impl.Errors) bool {
	return slices.EqualFunc(a.Nodes, b.Nodes, func(one impl.ErrorNode, two impl.ErrorNode) bool {
		return one.Kind == two.Kind && one.Code == two.Code && slices.Equal(one.Parts, two.Parts)
	})
}

// copiedErrors returns Errors that share no memory with e.
func copiedErrors(e impl.Errors) impl.Errors {
	var other impl.Errors
	for _, node := range e.Nodes {
		other.Nodes = append(other.Nodes, impl.ErrorNode{Kind: node.Kind, Code: node.Code, Parts: slices.Clone(node.Parts)})
	}
	return other
}

// withAhead returns the Errors with one ahead of all others, as chapter 6 says it, beside the program.
func withAhead(e impl.Errors, first impl.ErrorNode) impl.Errors {
	more := copiedErrors(errorsOf(append([]impl.ErrorNode{first}, e.Nodes...)...))
	for _, node := range more.Nodes {
		for i := range node.Parts {
			node.Parts[i]++
		}
	}
	return more
}

// checkAhead checks Errors with one more error, which leaves all that is told of the others.
func checkAhead(t *testing.T, e impl.Errors, first impl.ErrorNode, got impl.Errors, ok bool) {
	t.Helper()
	if len(e.Nodes) == impl.MaxErrors {
		if ok || len(got.Nodes) != 0 {
			t.Fatalf("more than all of %v: %v %t", e, got, ok)
		}
		return
	}
	if !ok || !sameErrors(got, withAhead(e, first)) || !impl.AreErrors(got) {
		t.Fatalf("%v ahead of %v: %v %t", first, e, got, ok)
	}
	for n := range e.Nodes {
		before, one := impl.ErrorText(e, n)
		behind, two := impl.ErrorText(got, n+1)
		if before != behind || one != two {
			t.Fatalf("%v ahead of %v: %q, not %q", first, e, behind, before)
		}
	}
}

func TestPromise6MoreErrors(t *testing.T) {
	var full, more int
	for i, e := range append(randomErrors(63, 500), longErrors()...) {
		for n := range e.Nodes {
			code := (17*i + n) % (impl.MaxCode + 1)
			wrapped, ok := impl.WrapError(e, n, code)
			checkAhead(t, e, wrapOf(code, n), wrapped, ok)
			list := []int{}
			for k := range 1 + (i+n)%impl.MaxErrors {
				list = append(list, (n+k*k)%len(e.Nodes))
			}
			joined, ok := impl.JoinErrors(e, list)
			checkAhead(t, e, joinOf(list...), joined, ok)
			if !ok {
				full++
				continue
			}
			more++
			told := checkErrors(t, wrapped)
			if is, _ := impl.IsError(wrapped, 0, n+1); !is || told[0].serves[impl.ErrorWrap] != 0 {
				t.Fatalf("%v wrapped with %d: %v", e, code, wrapped)
			}
			checkErrors(t, joined)
		}
	}
	if full < 200 || more < 500 {
		t.Error("too much alike", full, more)
	}
}

func TestPromise6WrapError(t *testing.T) {
	e := errorsOf(joinOf(2, 1), plainOf(7), likeOf(8))
	for _, all := range []struct {
		n, code int
		text    string
	}{{0, 0, "w0: [like8; e7]"}, {1, 5, "w5: e7"}, {2, 99, "w99: like8"}} {
		got, ok := impl.WrapError(e, all.n, all.code)
		want := errorsOf(wrapOf(all.code, all.n+1), joinOf(3, 2), plainOf(7), likeOf(8))
		text, written := impl.ErrorText(got, 0)
		if !ok || !sameErrors(got, want) || text != all.text || !written {
			t.Error("wrapped", all, got, text)
		}
	}
	// It goes on until there are MaxErrors errors.
	chain := errorsOf(plainOf(1))
	for size := 1; size < impl.MaxErrors; size++ {
		more, ok := impl.WrapError(chain, 0, size)
		if !ok || len(more.Nodes) != size+1 {
			t.Fatal("wrapped again", size, more, ok)
		}
		chain = more
	}
	if text, ok := impl.ErrorText(chain, 0); text != "w11: w10: w9: w8: w7: w6: w5: w4: w3: w2: w1: e1" || !ok {
		t.Error("wrapped again and again", text, ok)
	}
	for n := range chain.Nodes {
		wrapped, one := impl.WrapError(chain, n, 5)
		joined, two := impl.JoinErrors(chain, []int{n})
		if one || two || len(wrapped.Nodes)+len(joined.Nodes) != 0 {
			t.Error("more than MaxErrors", n, wrapped, joined)
		}
	}
	checkErrors(t, chain)
}

func TestPromise6JoinErrors(t *testing.T) {
	e := errorsOf(wrapOf(5, 2), plainOf(7), likeOf(8))
	for _, all := range []struct {
		list []int
		text string
	}{{[]int{0}, "[w5: like8]"}, {[]int{2, 1, 0}, "[like8; e7; w5: like8]"}, {[]int{1, 1}, "[e7; e7]"}, {[]int{2, 0, 2}, "[like8; w5: like8; like8]"}} {
		got, ok := impl.JoinErrors(e, all.list)
		var parts []int
		for _, n := range all.list {
			parts = append(parts, n+1)
		}
		text, written := impl.ErrorText(got, 0)
		if !ok || !sameErrors(got, errorsOf(joinOf(parts...), wrapOf(5, 3), plainOf(7), likeOf(8))) || text != all.text || !written {
			t.Error("joined", all, got, text)
		}
	}
	// Lists of 1 to MaxErrors numbers, for Errors of any size.
	for size := 1; size <= impl.MaxErrors; size++ {
		plains := errorsOf(slices.Repeat([]impl.ErrorNode{plainOf(1)}, size)...)
		for long := range impl.MaxErrors + 4 {
			list := []int{}
			for k := range long {
				list = append(list, k%size)
			}
			got, ok := impl.JoinErrors(plains, list)
			valid := 1 <= long && long <= impl.MaxErrors && size < impl.MaxErrors
			if ok != valid || valid && (len(got.Nodes) != size+1 || len(got.Nodes[0].Parts) != long) || !valid && len(got.Nodes) != 0 {
				t.Error("of a list", size, long, got, ok)
			}
		}
	}
}

// pruneByRule tells by chapter 6 which Errors are left, beside the program.
func pruneByRule(e impl.Errors, n int) impl.Errors {
	left := modelErrors(e)[n].ways
	place := make([]int, len(e.Nodes))
	var pruned impl.Errors
	for i, node := range copiedErrors(e).Nodes {
		if left[i] > 0 {
			place[i] = len(pruned.Nodes)
			pruned.Nodes = append(pruned.Nodes, node)
		}
	}
	for _, node := range pruned.Nodes {
		for i, part := range node.Parts {
			node.Parts[i] = place[part]
		}
	}
	return pruned
}

func TestPromise6PrunedErrorsAreThoseOfTheWalk(t *testing.T) {
	var whole, less int
	for _, e := range append(randomErrors(64, 2000), longErrors()...) {
		for n := range e.Nodes {
			pruned, ok := impl.PruneErrors(e, n)
			if !ok || !sameErrors(pruned, pruneByRule(e, n)) || !impl.AreErrors(pruned) {
				t.Fatalf("error %d of %v pruned: %v %t", n, e, pruned, ok)
			}
			before, one := impl.ErrorText(e, n)
			behind, two := impl.ErrorText(pruned, 0)
			if before != behind || one != two {
				t.Fatalf("error %d of %v pruned: %q, not %q", n, e, behind, before)
			}
			if again, ok := impl.PruneErrors(pruned, 0); !ok || !sameErrors(again, pruned) {
				t.Fatalf("error %d of %v pruned again: %v", n, e, again)
			}
			if len(pruned.Nodes) == len(e.Nodes) {
				whole++
			} else {
				less++
			}
		}
	}
	if whole < 500 || less < 500 {
		t.Error("too much alike", whole, less)
	}
}

func TestPromise6PruneErrors(t *testing.T) {
	e := errorsOf(joinOf(3, 1), wrapOf(5, 4), plainOf(6), joinOf(5, 4, 5), likeOf(7), plainOf(8), wrapOf(9, 7), plainOf(8))
	for n, want := range []impl.Errors{
		errorsOf(joinOf(2, 1), wrapOf(5, 3), joinOf(4, 3, 4), likeOf(7), plainOf(8)), errorsOf(wrapOf(5, 1), likeOf(7)), errorsOf(plainOf(6)),
		errorsOf(joinOf(2, 1, 2), likeOf(7), plainOf(8)), errorsOf(likeOf(7)), errorsOf(plainOf(8)), errorsOf(wrapOf(9, 1), plainOf(8)), errorsOf(plainOf(8)),
	} {
		if got, ok := impl.PruneErrors(e, n); !ok || !sameErrors(got, want) {
			t.Error("pruned", n, got, ok)
		}
	}
	// What an ErrorLike likes is not in its walk, and goes.
	if got, ok := impl.PruneErrors(errorsOf(likeOf(7), plainOf(7)), 0); !ok || !sameErrors(got, errorsOf(likeOf(7))) {
		t.Error("liked", got, ok)
	}
}

// errorsByRule tells by chapter 6 the Errors of a run with a PanicChain, beside the program.
func errorsByRule(chain []int) impl.Errors {
	var e impl.Errors
	for i := len(chain) - 1; i >= max(0, len(chain)-impl.MaxErrors); i-- {
		code := chain[i]
		for code < 0 {
			code += 100
		}
		e.Nodes = append(e.Nodes, wrapOf(code%100, len(e.Nodes)+1))
	}
	last := len(e.Nodes) - 1
	e.Nodes[last] = plainOf(e.Nodes[last].Code)
	return e
}

// checkErrorsOfRun compares the Errors of a run with its chain as the model writes it down, which
// is empty if the run does not end by a panic.
func checkErrorsOfRun(t *testing.T, p impl.Program, f int, arg int, fuel int) []int {
	t.Helper()
	chain := modelThrown(p, f, arg, fuel).chain
	got, ok := impl.ErrorsOfRun(p, f, arg, fuel)
	if len(chain) == 0 {
		if ok || len(got.Nodes) != 0 {
			t.Fatalf("%d of %s with %d and %d does not panic: %v %t", f, textByRule(p), arg, fuel, got, ok)
		}
		return chain
	}
	if !ok || !sameErrors(got, errorsByRule(chain)) || !impl.AreErrors(got) {
		t.Fatalf("%d of %s with %d and %d: %v %t, not %v", f, textByRule(p), arg, fuel, got, ok, errorsByRule(chain))
	}
	return chain
}

func TestPromise6ErrorsOfRunsAreThoseOfTheModel(t *testing.T) {
	var none, one, more, negative int
	for i, p := range append(randomPrograms(65, 1000), panickingPrograms(65, 2000)...) {
		for f := range p.Functions {
			for _, arg := range []int{-7, edgeNumbers[i%len(edgeNumbers)]} {
				switch chain := checkErrorsOfRun(t, p, f, arg, impl.MaxFuel-i%60); {
				case len(chain) == 0:
					none++
				case slices.Min(chain) < 0:
					negative++
				case len(chain) == 1:
					one++
				default:
					more++
				}
			}
		}
	}
	if min(none, one, more, negative) < 500 {
		t.Error("the runs are too much alike", none, one, more, negative)
	}
}

func TestPromise6ErrorsOfRunsWithMoreValues(t *testing.T) {
	// The function 0 defers a panic with each number from its argument down to 1, and panics with 0.
	rising := program(body(set(3, -1), later(1, 0), add(0, 3), jump(1, 0), throw(0)), body(throw(0)))
	for arg := 1; arg <= 49; arg++ {
		if chain := checkErrorsOfRun(t, rising, 0, arg, impl.MaxFuel); !slices.Equal(chain, numbers(0, arg)) {
			t.Fatal("chain", arg, chain)
		}
		e, _ := impl.ErrorsOfRun(rising, 0, arg, impl.MaxFuel)
		size := min(arg+1, impl.MaxErrors)
		if len(e.Nodes) != size || e.Nodes[0].Code != arg || e.Nodes[size-1].Kind != impl.ErrorPlain || e.Nodes[size-1].Code != arg+1-size {
			t.Error("of a longer chain", arg, e)
		}
	}
	want := errorsOf(wrapOf(12, 1), wrapOf(11, 2), wrapOf(10, 3), wrapOf(9, 4), wrapOf(8, 5), wrapOf(7, 6), wrapOf(6, 7), wrapOf(5, 8), wrapOf(4, 9), wrapOf(3, 10), wrapOf(2, 11), plainOf(1))
	if got, ok := impl.ErrorsOfRun(rising, 0, 12, impl.MaxFuel); !ok || !sameErrors(got, want) {
		t.Error("of 13 values", got, ok)
	}
	// Those are less than 0: the last ones of -20, -19, .. up to 0.
	falling := program(body(set(3, -1), later(1, 2), add(2, 3), add(0, 3), jump(1, 0), throw(2)), body(throw(0)))
	if chain := checkErrorsOfRun(t, falling, 0, 20, impl.MaxFuel); !slices.Equal(chain, numbers(-20, 0)) {
		t.Error("falling", chain)
	}
	e, _ := impl.ErrorsOfRun(falling, 0, 20, impl.MaxFuel)
	if text, ok := impl.ErrorText(e, 0); text != "w0: w99: w98: w97: w96: w95: w94: w93: w92: w91: w90: e89" || !ok {
		t.Error("less than 0", text, ok)
	}
}

func TestPromise6CodesOfValues(t *testing.T) {
	p := program(body(throw(0)))
	for arg := -32768; arg <= 32767; arg++ {
		got, ok := impl.ErrorsOfRun(p, 0, arg, 1)
		if !ok || !sameErrors(got, errorsByRule([]int{arg})) {
			t.Fatal("code", arg, got, ok)
		}
	}
	for arg, code := range map[int]int{-32768: 32, -200: 0, -101: 99, -100: 0, -99: 1, -1: 99, 0: 0, 99: 99, 100: 0, 101: 1, 32767: 67} {
		if got, ok := impl.ErrorsOfRun(p, 0, arg, 1); !ok || !sameErrors(got, errorsOf(plainOf(code))) {
			t.Error("code", arg, got, ok)
		}
	}
}

func TestPromise6ErrorsOfRunsThatDoNotPanic(t *testing.T) {
	for name, p := range map[string]impl.Program{
		"returns": program(nil, body(throw(0))), "exits": program(body(exit())), "is spent": program(body(jump(0, 0), throw(0))),
		"is recovered": program(body(later(1, 0), throw(0)), body(save(0))), "is lost": program(body(later(1, 0), throw(0)), body(exit())),
		"is spent while a panic is on": program(body(later(1, 0), throw(0)), body(set(1, 1), jump(1, 1))),
	} {
		if got, ok := impl.ErrorsOfRun(p, 0, 6, impl.MaxFuel); ok || len(got.Nodes) != 0 {
			t.Error(name, got, ok)
		}
	}
	p := program(body(throw(0)), nil)
	for _, f := range []int{math.MinInt, -1, 0, 1, 2, 6, 1 << 32, math.MaxInt} {
		for _, arg := range []int{math.MinInt, -32769, -32768, 0, 32767, 32768, 65536, math.MaxInt} {
			for _, fuel := range []int{math.MinInt, -1, 0, 1, 200, 201, 1 << 32, math.MaxInt} {
				valid := f == 0 && -32768 <= arg && arg <= 32767 && 1 <= fuel && fuel <= 200
				if got, ok := impl.ErrorsOfRun(p, f, arg, fuel); ok != valid || !valid && len(got.Nodes) != 0 {
					t.Error("run", f, arg, fuel, got, ok)
				}
			}
		}
	}
	for i, p := range invalidPrograms() {
		if got, ok := impl.ErrorsOfRun(p, 0, 0, 9); ok || len(got.Nodes) != 0 {
			t.Error("no program", i, got, ok)
		}
	}
}

// validErrors tells by chapter 6 whether Errors are valid, beside the program.
func validErrors(e impl.Errors) bool {
	valid := 1 <= len(e.Nodes) && len(e.Nodes) <= 12
	for n, node := range e.Nodes {
		least := map[int]int{impl.ErrorWrap: 1, impl.ErrorJoin: 1}[node.Kind]
		most := map[int]int{impl.ErrorWrap: 1, impl.ErrorJoin: 12}[node.Kind]
		valid = valid && 1 <= node.Kind && node.Kind <= 4 && least <= len(node.Parts) && len(node.Parts) <= most
		valid = valid && 0 <= node.Code && node.Code <= 99 && (node.Kind != impl.ErrorJoin || node.Code == 0)
		for _, part := range node.Parts {
			valid = valid && n < part && part < len(e.Nodes)
		}
	}
	return valid
}

func TestPromise6AreErrors(t *testing.T) {
	lists := [][]int{nil, {}, {0}, {1}, {2}, {3}, {4}, {-1}, {math.MinInt}, {math.MaxInt}, {1 << 32}, {2, 3}, {3, 2}, {3, 3}, {2, 1}, {1, 2}, {3, 4}, {2, -1}, {3, 2, 2}}
	for _, size := range []int{11, 12, 13, 14} {
		lists = append(lists, slices.Repeat([]int{3}, size), slices.Repeat([]int{2}, size), append(slices.Repeat([]int{3}, size-1), 1))
	}
	count := 0
	for n := range 4 {
		for _, kind := range []int{math.MinInt, -1, 0, 1, 2, 3, 4, 5, 257, 1<<32 + 1, math.MaxInt} {
			for _, code := range []int{math.MinInt, -1 << 32, -1, 0, 1, 50, 99, 100, 1 << 32, math.MaxInt} {
				for _, parts := range lists {
					e := errorsOf(plainOf(1), likeOf(2), wrapOf(3, 3), plainOf(4))
					e.Nodes[n] = impl.ErrorNode{Kind: kind, Code: code, Parts: parts}
					valid := validErrors(e)
					if impl.AreErrors(e) != valid {
						t.Fatal("errors", n, e, valid)
					}
					if valid {
						count++
						checkErrors(t, e)
					}
				}
			}
		}
	}
	if count < 100 {
		t.Error("too few are valid", count)
	}
	for size := range impl.MaxErrors + 4 {
		e := errorsOf(slices.Repeat([]impl.ErrorNode{plainOf(1)}, size)...)
		if impl.AreErrors(e) != (1 <= size && size <= impl.MaxErrors) {
			t.Error("as many errors as", size)
		}
	}
	for i, e := range invalidErrors() {
		if impl.AreErrors(e) || validErrors(e) {
			t.Error("valid", i)
		}
	}
}

// invalidErrors are no Errors, though all but one thing of them may be right.
func invalidErrors() []impl.Errors {
	with := func(node impl.ErrorNode) impl.Errors { return errorsOf(plainOf(1), node, plainOf(2), likeOf(3)) }
	node := func(kind int, code int, parts ...int) impl.ErrorNode {
		return impl.ErrorNode{Kind: kind, Code: code, Parts: parts}
	}
	return []impl.Errors{{}, errorsOf(), errorsOf(slices.Repeat([]impl.ErrorNode{plainOf(1)}, 13)...), errorsOf(impl.ErrorNode{}),
		errorsOf(wrapOf(1, 0)), errorsOf(wrapOf(1, 1)), errorsOf(joinOf(1)), errorsOf(plainOf(1), wrapOf(1, 0)), errorsOf(wrapOf(1, 1), wrapOf(1, 2)),
		with(node(0, 1)), with(node(5, 1)), with(node(-1, 1)), with(node(257, 1)), with(plainOf(-1)), with(plainOf(100)), with(likeOf(-1)), with(likeOf(100)),
		with(wrapOf(-1, 2)), with(wrapOf(100, 2)), with(node(impl.ErrorJoin, 1, 2)), with(node(impl.ErrorJoin, -1, 2)), with(node(impl.ErrorJoin, 99, 2)),
		with(node(impl.ErrorPlain, 1, 2)), with(node(impl.ErrorLike, 1, 2)), with(node(impl.ErrorWrap, 1)), with(node(impl.ErrorWrap, 1, 2, 2)), with(joinOf()),
		with(joinOf(slices.Repeat([]int{2}, 13)...)), with(joinOf(1)), with(joinOf(0)), with(joinOf(4)), with(joinOf(2, 3, 1)), with(joinOf(2, -1)), with(joinOf(math.MinInt)),
		with(wrapOf(1, 1)), with(wrapOf(1, 0)), with(wrapOf(1, 4)), with(wrapOf(1, -1)), with(wrapOf(1, math.MaxInt)),
		errorsOf(make([]impl.ErrorNode, 1<<20)...), errorsOf(slices.Repeat([]impl.ErrorNode{plainOf(1)}, 1<<20)...), with(joinOf(slices.Repeat([]int{2}, 1<<20)...))}
}

// errorAnswers asks all functions of chapter 6 that need Errors, and returns whether they do not
// fail and how much they tell.
func errorAnswers(e impl.Errors, n int, other int, kind int, code int, list []int) ([12]bool, [12]int) {
	var ok [12]bool
	var size [12]int
	tells := func(at int, much int, fine bool) { size[at], ok[at] = much, fine }
	yes := map[bool]int{true: 1}
	walk, fine := impl.WalkOf(e, n)
	tells(0, len(walk), fine)
	is, fine := impl.IsError(e, n, other)
	tells(1, yes[is], fine)
	by, fine := impl.ServesAs(e, n, kind)
	tells(2, by, fine)
	text, fine := impl.ErrorText(e, n)
	tells(3, len(text), fine)
	parts, fine := impl.UnwrapError(e, n)
	tells(4, len(parts), fine)
	depth, fine := impl.DepthOf(e, n)
	tells(5, depth, fine)
	leaves, fine := impl.LeavesOf(e, n)
	tells(6, len(leaves), fine)
	alike, fine := impl.AreAlike(e, n, other)
	tells(7, yes[alike], fine)
	ways, fine := impl.CountWays(e, n, other)
	tells(8, ways, fine)
	wrapped, fine := impl.WrapError(e, n, code)
	tells(9, len(wrapped.Nodes), fine)
	joined, fine := impl.JoinErrors(e, list)
	tells(10, len(joined.Nodes), fine)
	pruned, fine := impl.PruneErrors(e, n)
	tells(11, len(pruned.Nodes), fine)
	return ok, size
}

func TestPromise6NumbersKindsAndCodesRefuseOthers(t *testing.T) {
	e := errorsOf(joinOf(1, 2), wrapOf(5, 3), plainOf(7), likeOf(7))
	values := []int{math.MinInt, -1 << 32, -4, -1, 0, 1, 2, 3, 4, 5, 11, 12, 99, 100, 257, 1 << 32, 1<<32 + 1, math.MaxInt}
	for _, n := range values {
		one := 0 <= n && n < 4
		for _, other := range values {
			two := one && 0 <= other && other < 4
			for _, kind := range values {
				serves := n == 0 && 1 <= kind && kind <= 4 || n == 1 && (kind == 2 || kind == 4) || n == 2 && kind == 1 || n == 3 && kind == 4
				for _, code := range values {
					wraps := one && 0 <= code && code <= 99
					ok, size := errorAnswers(e, n, other, kind, code, []int{n, 0})
					if ok != [12]bool{one, two, serves, one, one, one, one, two, two, wraps, one, one} {
						t.Fatal("answers", n, other, kind, code, ok)
					}
					for i := range ok {
						if !ok[i] && size[i] != 0 {
							t.Fatal("tells", n, other, kind, code, size)
						}
					}
				}
			}
		}
	}
}

func TestPromise6ListsRefuseOthers(t *testing.T) {
	e := errorsOf(joinOf(1, 2), wrapOf(5, 3), plainOf(7), likeOf(7))
	for _, list := range [][]int{nil, {}, {-1}, {4}, {math.MinInt}, {math.MaxInt}, {math.MaxInt - 1}, {1 << 32}, {0, -1}, {4, 0}, {0, 1, 2, 3, 4}, {0, 1, 2, math.MinInt},
		slices.Repeat([]int{0}, 13), slices.Repeat([]int{0}, 1<<20)} {
		if got, ok := impl.JoinErrors(e, list); ok || len(got.Nodes) != 0 {
			t.Error("joined", len(list), got, ok)
		}
	}
	for _, list := range append(listsOf([]int{0, 1, 2, 3}, 4), slices.Repeat([]int{3}, 12)) {
		got, ok := impl.JoinErrors(e, list)
		checkAhead(t, e, joinOf(list...), got, ok)
	}
}

func TestPromise13WhatAreNoErrorsFail(t *testing.T) {
	for i, e := range invalidErrors() {
		for _, n := range []int{math.MinInt, -1, 0, 1, 2, 3, 4, 12, math.MaxInt} {
			for kind := range 6 {
				ok, size := errorAnswers(e, n, 0, kind, 5, []int{0})
				if ok != [12]bool{} || size != [12]int{} {
					t.Error("of no errors", i, n, kind, ok, size)
				}
				if ok, size := errorAnswers(e, 0, n, kind, n, []int{n}); ok != [12]bool{} || size != [12]int{} {
					t.Error("of no errors", i, n, kind, ok, size)
				}
			}
		}
	}
}

// spreadErrors returns the same Errors, with Parts that lie in longer memory, in longer memory.
func spreadErrors(e impl.Errors) impl.Errors {
	long := copiedErrors(e)
	for n, node := range long.Nodes {
		long.Nodes[n].Parts = append(slices.Clone(node.Parts), 5, 6, 7)[:len(node.Parts)]
	}
	return errorsOf(append(long.Nodes, plainOf(98), joinOf(6, 6))[:len(long.Nodes)]...)
}

// wholeOf returns Errors with all the memory in which spreadErrors has put them.
func wholeOf(e impl.Errors) impl.Errors {
	whole := errorsOf(e.Nodes[:len(e.Nodes)+2]...)
	whole.Nodes = slices.Clone(whole.Nodes)
	for n := range e.Nodes {
		whole.Nodes[n].Parts = e.Nodes[n].Parts[:len(e.Nodes[n].Parts)+3]
	}
	return whole
}

func TestPromise13ErrorsModifyNothing(t *testing.T) {
	for _, e := range append(append(randomErrors(66, 200), longErrors()...), invalidErrors()[:39]...) {
		given := spreadErrors(e)
		before := copiedErrors(wholeOf(given))
		list := append([]int{0, len(e.Nodes) - 1, 0}, 9, 9)[:3]
		for n := -1; n <= len(e.Nodes); n++ {
			for kind := range 6 {
				one, first := errorAnswers(given, n, len(e.Nodes)-1-n, kind, 5+kind, list)
				two, second := errorAnswers(given, n, len(e.Nodes)-1-n, kind, 5+kind, list)
				if one != two || first != second {
					t.Fatalf("other answers of %v", e)
				}
			}
		}
		if whole := list[:5]; !sameErrors(given, e) || !sameErrors(wholeOf(given), before) || !slices.Equal(whole, []int{0, len(e.Nodes) - 1, 0, 9, 9}) {
			t.Fatalf("modified %v: %v %v", e, wholeOf(given), whole)
		}
	}
	for _, p := range append(panickingPrograms(66, 200), invalidPrograms()[:22]...) {
		checkUnmodified(t, p, func(given impl.Program) {
			for f := -1; f <= len(p.Functions); f++ {
				one, first := impl.ErrorsOfRun(given, f, 1, 60)
				two, second := impl.ErrorsOfRun(given, f, 1, 60)
				if first != second || !sameErrors(one, two) {
					t.Fatalf("other errors of %s", textByRule(p))
				}
			}
		})
	}
}

// overwriteErrors gives all errors other values, and their Parts other numbers.
func overwriteErrors(e impl.Errors) {
	for n, node := range e.Nodes {
		parts := node.Parts[:cap(node.Parts)]
		for i := range parts {
			parts[i] = -7
		}
		e.Nodes[n] = impl.ErrorNode{Kind: 99, Code: 99}
	}
}

func TestPromise13ErrorsThatAreReturnedAreApart(t *testing.T) {
	e := errorsOf(joinOf(3, 1, 3), wrapOf(5, 2), plainOf(7), likeOf(8), joinOf(5), plainOf(9))
	list := []int{0, 1, 1}
	before := copiedErrors(e)
	p := program(body(set(3, -1), later(1, 0), add(0, 3), jump(1, 0), throw(0)), body(throw(0)))
	for i, build := range []func() (impl.Errors, bool){
		func() (impl.Errors, bool) { return impl.WrapError(e, 1, 4) },
		func() (impl.Errors, bool) { return impl.JoinErrors(e, list) },
		func() (impl.Errors, bool) { return impl.PruneErrors(e, 0) },
		func() (impl.Errors, bool) { return impl.PruneErrors(e, 1) },
		func() (impl.Errors, bool) { return impl.ErrorsOfRun(p, 0, 5, impl.MaxFuel) },
		func() (impl.Errors, bool) { return impl.ErrorsOfRun(p, 0, 30, impl.MaxFuel) },
	} {
		first, one := build()
		second, two := build()
		want := copiedErrors(second)
		overwriteErrors(first)
		third, three := build()
		if !one || !two || !three || !sameErrors(second, want) || !sameErrors(third, want) || !sameErrors(e, before) || !slices.Equal(list, []int{0, 1, 1}) {
			t.Error("a result shares memory", i, second, third, e, list)
		}
		for n, node := range second.Nodes {
			_ = append(node.Parts, -7, -7)
			if !sameErrors(second, want) {
				t.Error("parts share memory", i, n)
			}
		}
	}
}

func TestPromise13ListsOfErrorsAreApart(t *testing.T) {
	e := errorsOf(joinOf(3, 1, 3), wrapOf(5, 2), plainOf(7), likeOf(8))
	before := copiedErrors(e)
	checkListsApart(t,
		func() ([]int, bool) { return impl.WalkOf(e, 0) },
		func() ([]int, bool) { return impl.UnwrapError(e, 0) },
		func() ([]int, bool) { return impl.UnwrapError(e, 1) },
		func() ([]int, bool) { return impl.LeavesOf(e, 0) },
	)
	if !sameErrors(e, before) {
		t.Error("lists share memory with the errors", e)
	}
}
