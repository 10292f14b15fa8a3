package tests

import (
	"math"
	"math/big"
	"slices"
	"testing"

	"loop.example/g01362/impl"
)

// everyUp calls a function with all paths in a colour that go up and that a path begins, in their
// order, itself first.
func everyUp(x impl.Colouring, c int64, path []int64, use func(path []int64)) {
	least := int64(0)
	if len(path) > 0 {
		use(path)
		least = path[len(path)-1] + 1
	}
	for p := least; p < x.Points; p++ {
		if len(path) == 0 || hasColour(x, c, path[len(path)-1], p) {
			everyUp(x, c, append(slices.Clip(path), p), use)
		}
	}
}

// isClosedByDefinition reports whether a colour is closed.
func isClosedByDefinition(x impl.Colouring, c int64) bool {
	for l := range x.Points {
		for j := range l {
			for i := range j {
				if colourIn(x, i, j) == c && colourIn(x, j, l) == c && colourIn(x, i, l) != c {
					return false
				}
			}
		}
	}
	return true
}

// checkUp checks what chapter 10 tells of one colour.
func checkUp(t *testing.T, x impl.Colouring, c int64) {
	t.Helper()
	var longest []int64
	lengths := make([]int64, x.Points)
	everyUp(x, c, nil, func(path []int64) {
		m := len(path)
		lengths[path[m-1]] = max(lengths[path[m-1]], int64(m))
		if m > len(longest) {
			longest = slices.Clone(path)
		}
	})
	path, code := impl.LongestUp(x, c)
	wantList(t, "LongestUp", path, code, longest, impl.ErrNone)
	if !isPathByDefinition(x, c, path) || !slices.IsSorted(path) {
		t.Errorf("%v is no path in the colour %d that goes up", path, c)
	}
	found, code := impl.UpLengths(x, c)
	wantList(t, "UpLengths", found, code, lengths, impl.ErrNone)
	closed, code := impl.IsClosedColour(x, c)
	wantBool(t, "IsClosedColour", closed, code, isClosedByDefinition(x, c), impl.ErrNone)
}

// everyOrderedCase calls a function with all colourings of few points, with colourings of all shapes,
// with those of one colour, and with those of groups and of names.
func everyOrderedCase(t *testing.T, use func(x impl.Colouring)) {
	t.Helper()
	for _, shape := range [][2]int64{{1, 1}, {1, 2}, {1, 4}, {2, 1}, {2, 2}, {2, 4}, {3, 1}, {3, 2}, {3, 3}, {3, 4}, {4, 1}, {4, 2}, {4, 3}, {5, 1}, {5, 2}} {
		everyColouringOf(shape[0], shape[1], use)
	}
	everyPatternCase(t, use)
}

func TestL10MaxCoordinate(t *testing.T) {
	if impl.MaxCoordinate != 1000 {
		t.Errorf("MaxCoordinate is %d", impl.MaxCoordinate)
	}
}

func TestL10PathsThatGoUp(t *testing.T) {
	everyOrderedCase(t, func(x impl.Colouring) {
		for c := range x.Colours {
			checkUp(t, x, c)
		}
	})
}

// upCase has a colouring, a colour, and what is told of it.
type upCase struct {
	text    string
	c       int64
	longest []int64
	lengths []int64
	closed  bool
}

func TestL10OneColour(t *testing.T) {
	for _, w := range []upCase{
		{"1,1:", 0, []int64{0}, []int64{1}, true},
		{"1,4:", 3, []int64{0}, []int64{1}, true},
		{"2,2:0", 0, []int64{0, 1}, []int64{1, 2}, true},
		{"2,2:0", 1, []int64{0}, []int64{1, 1}, true},
		{"2,1:0", 0, []int64{0, 1}, []int64{1, 2}, true},
		// A colour with all edges, and colours without any.
		{"4,3:1,11,111", 1, []int64{0, 1, 2, 3}, []int64{1, 2, 3, 4}, true},
		{"4,3:1,11,111", 0, []int64{0}, []int64{1, 1, 1, 1}, true},
		{"4,3:1,11,111", 2, []int64{0}, []int64{1, 1, 1, 1}, true},
		// Several longest paths: the first ones differ at the first point, in between, or at the last one.
		{"4,2:1,11,111", 0, []int64{0}, []int64{1, 1, 1, 1}, true},
		{"4,2:1,11,110", 0, []int64{2, 3}, []int64{1, 1, 1, 2}, true},
		{"4,2:0,11,110", 0, []int64{0, 1}, []int64{1, 2, 1, 2}, true},
		{"4,2:0,01,100", 0, []int64{0, 1, 3}, []int64{1, 2, 2, 3}, false},
		{"4,2:0,10,101", 0, []int64{0, 1, 2}, []int64{1, 2, 3, 3}, false},
		{"5,2:1,00,000,1111", 0, []int64{0, 2, 3}, []int64{1, 1, 2, 3, 1}, true},
		// The first point of the longest path is not the one with the first edge.
		{"5,2:0,11,110,1110", 0, []int64{2, 3, 4}, []int64{1, 2, 1, 2, 3}, false},
		// One edge is missing.
		{"3,2:0,10", 0, []int64{0, 1, 2}, []int64{1, 2, 3}, false},
		{"3,2:0,00", 0, []int64{0, 1, 2}, []int64{1, 2, 3}, true},
		{"3,2:0,10", 1, []int64{0, 2}, []int64{1, 1, 2}, true},
		// Edges to a lesser point do not make a colour less closed.
		{"3,2:0,01", 0, []int64{0, 1}, []int64{1, 2, 2}, true},
		{"3,2:1,00", 0, []int64{0, 2}, []int64{1, 1, 2}, true},
		{"5,2:0,10,110,0110", 0, []int64{0, 1, 2, 3, 4}, []int64{1, 2, 3, 4, 5}, false},
		{"5,2:0,10,110,0110", 1, []int64{0, 2, 4}, []int64{1, 1, 2, 2, 3}, false},
	} {
		x := parsed(t, w.text)
		path, code := impl.LongestUp(x, w.c)
		wantList(t, "LongestUp of "+w.text, path, code, w.longest, impl.ErrNone)
		lengths, code := impl.UpLengths(x, w.c)
		wantList(t, "UpLengths of "+w.text, lengths, code, w.lengths, impl.ErrNone)
		closed, code := impl.IsClosedColour(x, w.c)
		wantBool(t, "IsClosedColour of "+w.text, closed, code, w.closed, impl.ErrNone)
	}
}

func TestL10ColoursOfMaxPoints(t *testing.T) {
	for k := int64(1); k <= impl.MaxColours; k++ {
		x := oneColour(17, k, byte(k-1))
		path, code := impl.LongestUp(x, k-1)
		wantList(t, "LongestUp of all edges", path, code, upTo(17), impl.ErrNone)
		lengths, code := impl.UpLengths(x, k-1)
		wantList(t, "UpLengths of all edges", lengths, code, upTo(18)[1:], impl.ErrNone)
		for c := range k - 1 {
			path, code = impl.LongestUp(x, c)
			wantList(t, "LongestUp of no edges", path, code, []int64{0}, impl.ErrNone)
			lengths, code = impl.UpLengths(x, c)
			wantList(t, "UpLengths of no edges", lengths, code, sameNumber(17, 1), impl.ErrNone)
		}
	}
}

// Of MaxPoints points, one edge that has another colour makes a colour of all other edges less closed,
// but for the edges of neighbouring points.
func TestL10OneEdgeIsMissing(t *testing.T) {
	for j := range int64(impl.MaxPoints) {
		for i := range j {
			x, _ := impl.ChangeEdge(oneColour(17, 2, 1), i, j, 0)
			closed, code := impl.IsClosedColour(x, 1)
			wantBool(t, "IsClosedColour with an edge missing", closed, code, j == i+1, impl.ErrNone)
			closed, code = impl.IsClosedColour(x, 0)
			wantBool(t, "IsClosedColour of one edge", closed, code, true, impl.ErrNone)
		}
	}
}

// Promise 13: paths that go up in a closed colour are cliques.
func TestL10PathsInClosedColoursAreCliques(t *testing.T) {
	checked := 0
	check := func(x impl.Colouring, c int64) {
		if closed, code := impl.IsClosedColour(x, c); !closed || code != impl.ErrNone {
			return
		}
		checked++
		path, code := impl.LongestUp(x, c)
		is, cliqueCode := impl.IsClique(x, c, path)
		if !is || code != impl.ErrNone || cliqueCode != impl.ErrNone {
			t.Errorf("LongestUp returns %v and %d: a clique: %v, %d", path, code, is, cliqueCode)
		}
		clique, code := impl.GreatestClique(x, c)
		wantList(t, "GreatestClique of a closed colour", clique, code, path, impl.ErrNone)
		if x.Points > 8 {
			return
		}
		everyUp(x, c, nil, func(path []int64) {
			is, code := impl.IsClique(x, c, path)
			wantBool(t, "IsClique of a path that goes up", is, code, true, impl.ErrNone)
		})
	}
	everyOrderedCase(t, func(x impl.Colouring) {
		for c := range x.Colours {
			check(x, c)
		}
	})
	everySequence(func(list []int64) {
		x, _ := impl.SequenceColouring(list)
		before := checked
		check(x, 0)
		check(x, 1)
		if checked != before+2 {
			t.Errorf("the colouring of %v has a colour that is not closed", list)
		}
	})
	if checked < 1000 {
		t.Errorf("%d closed colours are looked at", checked)
	}
}

// A colour that is not closed has a path that goes up and is no clique.
func TestL10OtherColoursHaveOtherPaths(t *testing.T) {
	everyColouring(5, func(x impl.Colouring) {
		areCliques := true
		everyUp(x, 0, nil, func(path []int64) {
			is, _ := impl.IsClique(x, 0, path)
			areCliques = areCliques && is
		})
		closed, code := impl.IsClosedColour(x, 0)
		wantBool(t, "IsClosedColour", closed, code, areCliques, impl.ErrNone)
	})
}

// extremes returns sequences with numbers at the ends of their type, whose differences are greater
// than the type.
func extremes() [][]int64 {
	return [][]int64{
		{math.MinInt64}, {math.MaxInt64}, {math.MinInt64, math.MaxInt64}, {math.MaxInt64, math.MinInt64}, {math.MaxInt64, 0, math.MinInt64, -1},
		{math.MinInt64, math.MinInt64 + 1, math.MaxInt64 - 1, math.MaxInt64}, {0, math.MaxInt64, math.MinInt64}, {1, math.MinInt64, math.MaxInt64, -1, 0},
		{1 << 32, 1, 1<<32 + 1, 0}, {256, 0, 255, 1}, {-1, 0, 1}, {1, -1, 0},
	}
}

// inBlocks returns a sequence of blocks, each one below the one before it, whose numbers ascend.
func inBlocks(blocks int64, length int64) []int64 {
	var list []int64
	for block := range blocks {
		for place := range length {
			list = append(list, place-block*length)
		}
	}
	return list
}

// everySequence calls a function with all orders of few numbers, and with other sequences of up to
// MaxPoints numbers.
func everySequence(use func(list []int64)) {
	for n := int64(1); n <= 6; n++ {
		everyOrder(n, nil, use)
	}
	for n := int64(1); n <= impl.MaxPoints; n++ {
		for seed := range uint64(5) {
			list := mixedList(n, seed)
			use(slices.Clone(list))
			for place := range list {
				list[place] = 1000*list[place] - 7777
			}
			use(list)
		}
		use(upTo(n))
		falling := upTo(n)
		slices.Reverse(falling)
		use(falling)
	}
	for blocks := int64(1); blocks <= impl.MaxPoints; blocks++ {
		for length := int64(1); blocks*length <= impl.MaxPoints; length++ {
			use(inBlocks(blocks, length))
		}
	}
	for _, list := range extremes() {
		use(list)
	}
}

// sequenceByDefinition returns the colouring of a sequence.
func sequenceByDefinition(list []int64) impl.Colouring {
	x := impl.Colouring{Points: int64(len(list)), Colours: 2}
	for j := range list {
		for i := range j {
			if list[i] > list[j] {
				x.Edges[j*(j-1)/2+i] = 1
			}
		}
	}
	return x
}

// ranksOf returns for each number of a sequence how many others are less.
func ranksOf(list []int64) []int64 {
	sorted := slices.Sorted(slices.Values(list))
	var ranks []int64
	for _, number := range list {
		ranks = append(ranks, int64(slices.Index(sorted, number)))
	}
	return ranks
}

func TestL10SequenceColouring(t *testing.T) {
	everySequence(func(list []int64) {
		x, code := impl.SequenceColouring(list)
		wantSame(t, "SequenceColouring", x, code, sequenceByDefinition(list), impl.ErrNone)
		if !impl.IsColouring(x) {
			t.Errorf("SequenceColouring of %v is no colouring", list)
		}
	})
	for _, w := range []struct {
		list []int64
		text string
	}{
		{[]int64{7}, "1,2:"},
		{[]int64{-3, 9}, "2,2:0"},
		{[]int64{9, -3}, "2,2:1"},
		{[]int64{5, 9, 2}, "3,2:0,11"},
		{[]int64{2, 1, 3, 0}, "4,2:1,00,111"},
		{[]int64{math.MinInt64, -1, 0, math.MaxInt64}, "4,2:0,00,000"},
		{[]int64{math.MaxInt64, 0, -1, math.MinInt64}, "4,2:1,11,111"},
	} {
		x, code := impl.SequenceColouring(w.list)
		wantColouring(t, "SequenceColouring", x, code, w.text, impl.ErrNone)
	}
}

func TestL10NoSequence(t *testing.T) {
	falling := upTo(18)
	slices.Reverse(falling)
	lists := [][]int64{
		nil, {}, upTo(18), falling, upTo(100), make([]int64, 100000),
		{0, 0}, {5, 5}, {3, 3, 4}, {4, 3, 3}, {3, 4, 3}, {1, 2, 3, 1}, {0, 9, 7, 9}, {math.MinInt64, 0, math.MinInt64}, {math.MaxInt64, math.MaxInt64},
		sameNumber(17, 0), append(upTo(16), 0), append(upTo(16), 15),
	}
	for _, list := range lists {
		x, code := impl.SequenceColouring(list)
		wantSame(t, "SequenceColouring of no sequence", x, code, impl.Colouring{}, impl.ErrRange)
	}
}

// Promise 10, and the chapter's guarantee: colourings of sequences have two closed colours, and lead
// back.
func TestL10SequencesLeadBack(t *testing.T) {
	everySequence(func(list []int64) {
		x, _ := impl.SequenceColouring(list)
		order, code := impl.OrderOf(x)
		wantList(t, "OrderOf the colouring of a sequence", order, code, ranksOf(list), impl.ErrNone)
		y, code := impl.SequenceColouring(order)
		wantSame(t, "SequenceColouring of the order", y, code, x, impl.ErrNone)
		for c := range int64(2) {
			closed, code := impl.IsClosedColour(x, c)
			wantBool(t, "IsClosedColour of the colouring of a sequence", closed, code, true, impl.ErrNone)
		}
	})
}

// Of all colourings of few points with two colours, just those of the orders are of a sequence.
func TestL10OrderOfEveryColouring(t *testing.T) {
	for n := int64(1); n <= 6; n++ {
		orders := map[impl.Colouring][]int64{}
		everyOrder(n, nil, func(p []int64) { orders[sequenceByDefinition(p)] = p })
		everyColouring(n, func(x impl.Colouring) {
			wantCode := int64(impl.ErrNone)
			if orders[x] == nil {
				wantCode = impl.ErrState
			}
			order, code := impl.OrderOf(x)
			wantList(t, "OrderOf", order, code, orders[x], wantCode)
		})
	}
}

func TestL10OrderOf(t *testing.T) {
	for text, want := range map[string][]int64{
		"1,2:": {0}, "2,2:0": {0, 1}, "2,2:1": {1, 0}, "3,2:0,00": {0, 1, 2}, "3,2:1,11": {2, 1, 0}, "3,2:0,11": {1, 2, 0}, "4,2:1,00,111": {2, 1, 3, 0},
		// Not two colours, although all of them are closed.
		"1,1:": nil, "1,3:": nil, "1,4:": nil, "2,1:0": nil, "2,3:0": nil, "3,1:0,00": nil, "3,3:0,00": nil, "3,3:0,11": nil, "3,3:0,12": nil, "3,4:1,11": nil, "3,4:0,11": nil,
		// The first colour is not closed, the second one is not, both are not.
		"3,2:0,10": nil, "3,2:1,01": nil, "4,2:0,10,001": nil, "5,2:0,10,110,0110": nil,
	} {
		wantCode := int64(impl.ErrNone)
		if want == nil {
			wantCode = impl.ErrState
		}
		order, code := impl.OrderOf(parsed(t, text))
		wantList(t, "OrderOf "+text, order, code, want, wantCode)
	}
	for n := int64(1); n <= impl.MaxPoints; n++ {
		falling := upTo(n)
		slices.Reverse(falling)
		order, code := impl.OrderOf(oneColour(n, 2, 0))
		wantList(t, "OrderOf the colour 0", order, code, upTo(n), impl.ErrNone)
		order, code = impl.OrderOf(oneColour(n, 2, 1))
		wantList(t, "OrderOf the colour 1", order, code, falling, impl.ErrNone)
		for _, k := range []int64{1, 3, 4} {
			order, code = impl.OrderOf(oneColour(n, k, 0))
			wantList(t, "OrderOf other numbers of colours", order, code, nil, impl.ErrState)
		}
	}
}

func TestL10ErdosNumber(t *testing.T) {
	wantPairCases(t, "ErdosNumber", impl.ErdosNumber, []pairCase{
		{1, 1, 1}, {1, 2, 1}, {1, 1000, 1}, {2, 2, 2}, {2, 3, 3}, {2, 1000, 1000}, {3, 3, 5}, {3, 4, 7}, {5, 5, 17}, {10, 20, 172}, {999, 1000, 997003}, {1000, 1000, 998002},
	})
	everyTwo(1, 60, func(a int64, b int64) {
		number, code := impl.ErdosNumber(a, b)
		// The product is counted out, row by row.
		want := int64(1)
		for range a - 1 {
			want += b - 1
		}
		wantNumber(t, "ErdosNumber", number, code, want, impl.ErrNone)
	})
	wantOutside(t, "ErdosNumber", impl.ErdosNumber, 1, 1000)
}

// Each colouring of as many points as the number tells has a path as long as told that goes up; of one
// point less, that of blocks has none.
func TestL10ErdosNumbersAreReached(t *testing.T) {
	everyOrderedCase(t, func(x impl.Colouring) {
		if x.Colours != 2 {
			return
		}
		first, _ := impl.LongestUp(x, 0)
		second, _ := impl.LongestUp(x, 1)
		number, code := impl.ErdosNumber(int64(len(first))+1, int64(len(second))+1)
		if code != impl.ErrNone || number <= x.Points {
			t.Errorf("%d points have paths of %d and %d points only: %d, %d", x.Points, len(first), len(second), number, code)
		}
	})
	everyTwo(2, 17, func(a int64, b int64) {
		number, _ := impl.ErdosNumber(a, b)
		if number-1 > impl.MaxPoints {
			return
		}
		x, code := impl.SequenceColouring(inBlocks(b-1, a-1))
		wantNumber(t, "SequenceColouring of blocks", x.Points, code, number-1, impl.ErrNone)
		first, code := impl.LongestUp(x, 0)
		wantNumber(t, "LongestUp in a block", int64(len(first)), code, a-1, impl.ErrNone)
		second, code := impl.LongestUp(x, 1)
		wantNumber(t, "LongestUp from block to block", int64(len(second)), code, b-1, impl.ErrNone)
	})
}

// isLesserByDefinition reports whether a set of points is lesser-coloured.
func isLesserByDefinition(x impl.Colouring, points []int64) bool {
	for place, p := range points {
		seen := map[int64]bool{}
		for _, greater := range points[place+1:] {
			seen[colourIn(x, p, greater)] = true
		}
		if len(seen) > 1 {
			return false
		}
	}
	return true
}

// everyLesser calls a function with all lesser-coloured sets that a set begins, itself first. (A
// beginning of a lesser-coloured set is lesser-coloured.)
func everyLesser(x impl.Colouring, points []int64, use func(points []int64)) {
	least := int64(0)
	if len(points) > 0 {
		use(points)
		least = points[len(points)-1] + 1
	}
	for p := least; p < x.Points; p++ {
		more := append(slices.Clip(points), p)
		right := true
		for place := 0; place+2 < len(more) && right; place++ {
			right = colourIn(x, more[place], more[place+1]) == colourIn(x, more[place], p)
		}
		if right {
			everyLesser(x, more, use)
		}
	}
}

func TestL10IsLesserColouredOfEverySet(t *testing.T) {
	everyOrderedCase(t, func(x impl.Colouring) {
		if x.Points > 8 {
			return
		}
		counted := 0
		for set := range 1 << x.Points {
			points := pointsOf(set)
			want := isLesserByDefinition(x, points)
			if want && set > 0 {
				counted++
			}
			is, code := impl.IsLesserColoured(x, points)
			wantBool(t, "IsLesserColoured", is, code, want, impl.ErrNone)
		}
		// The search that the next test needs gives just these sets.
		everyLesser(x, nil, func(points []int64) {
			counted--
			if !isLesserByDefinition(x, points) {
				t.Errorf("%v is not lesser-coloured", points)
			}
		})
		if counted != 0 {
			t.Errorf("the search gives %d sets too few", counted)
		}
	})
}

// Promise 10: lesser parts are lesser-coloured. They are the first ones of all such sets.
func TestL10LesserPart(t *testing.T) {
	everyOrderedCase(t, func(x impl.Colouring) {
		var want []int64
		everyLesser(x, nil, func(points []int64) {
			if len(points) > len(want) || len(points) == len(want) && slices.Compare(points, want) < 0 {
				want = slices.Clone(points)
			}
		})
		part, code := impl.LesserPart(x)
		wantList(t, "LesserPart", part, code, want, impl.ErrNone)
		is, code := impl.IsLesserColoured(x, part)
		wantBool(t, "IsLesserColoured of a lesser part", is, code, true, impl.ErrNone)
		if !isLesserByDefinition(x, part) {
			t.Errorf("%v is not lesser-coloured", part)
		}
	})
}

func TestL10LesserPartOfFewPoints(t *testing.T) {
	for _, w := range []struct {
		text string
		want []int64
	}{
		{"1,1:", []int64{0}},
		{"1,4:", []int64{0}},
		{"2,1:0", []int64{0, 1}},
		{"2,4:3", []int64{0, 1}},
		{"3,1:0,00", []int64{0, 1, 2}},
		{"5,4:3,33,333,3333", []int64{0, 1, 2, 3, 4}},
		// The last edge of a set may have any colour.
		{"3,2:0,01", []int64{0, 1, 2}},
		{"3,2:1,10", []int64{0, 1, 2}},
		{"4,4:0,01,012", []int64{0, 1, 2, 3}},
		// Of several greatest sets the first one, not that of the least colour.
		{"3,2:0,10", []int64{0, 1}},
		{"3,2:1,00", []int64{0, 1}},
		{"3,3:2,10", []int64{0, 1}},
		{"5,2:1,11,000,0000", []int64{0, 1, 2}},
		{"5,2:0,10,110,0110", []int64{0, 1, 4}},
		// A greater number of points comes before a lesser first point.
		{"4,3:0,10,201", []int64{1, 2, 3}},
		{"5,4:0,10,200,3000", []int64{1, 2, 3, 4}},
	} {
		part, code := impl.LesserPart(parsed(t, w.text))
		wantList(t, "LesserPart of "+w.text, part, code, w.want, impl.ErrNone)
	}
}

// Colourings in which nearly all sets are lesser-coloured have up to 2^17 of them.
func TestL10LesserPartReturnsSoon(t *testing.T) {
	soon(t, "LesserPart of MaxPoints points", func() {
		for k := int64(1); k <= impl.MaxColours; k++ {
			for c := range k {
				part, code := impl.LesserPart(oneColour(17, k, byte(c)))
				wantList(t, "LesserPart of one colour", part, code, upTo(17), impl.ErrNone)
			}
			// Each point has a colour for all greater ones.
			part, code := impl.LesserPart(byRule(17, k, func(i int64, j int64) int64 { return min(i, j) % k }))
			wantList(t, "LesserPart of a colour for each point", part, code, upTo(17), impl.ErrNone)
			// Each point has a colour for all lesser ones.
			_, code = impl.LesserPart(byRule(17, k, func(i int64, j int64) int64 { return max(i, j) % k }))
			wantNumber(t, "LesserPart of a colour for all lesser points", 0, code, 0, impl.ErrNone)
			for seed := range uint64(50) {
				_, code = impl.LesserPart(mixed(17, k, seed))
				wantNumber(t, "LesserPart of mixed colours", 0, code, 0, impl.ErrNone)
			}
		}
	})
}

func TestL10IsLesserColoured(t *testing.T) {
	x := named(t, "pentagon")
	for _, w := range []struct {
		points []int64
		want   bool
	}{
		{nil, true}, {[]int64{}, true}, {[]int64{0}, true}, {[]int64{4}, true}, {[]int64{0, 1}, true}, {[]int64{0, 2}, true}, {[]int64{3, 4}, true},
		{[]int64{0, 1, 4}, true}, {[]int64{0, 2, 3}, true}, {[]int64{1, 3, 4}, true}, {[]int64{0, 1, 2}, false}, {[]int64{1, 2, 4}, false}, {[]int64{2, 3, 4}, false},
		{[]int64{0, 1, 2, 3, 4}, false}, {[]int64{1, 2, 3, 4}, false},
	} {
		is, code := impl.IsLesserColoured(x, w.points)
		wantBool(t, "IsLesserColoured in the pentagon", is, code, w.want, impl.ErrNone)
	}
	for n := int64(1); n <= impl.MaxPoints; n++ {
		is, code := impl.IsLesserColoured(oneColour(n, 2, 1), upTo(n))
		wantBool(t, "IsLesserColoured of all points", is, code, true, impl.ErrNone)
		// The edge of the last two points may have any colour, each other one may not.
		for j := range n {
			for i := range j {
				y, _ := impl.ChangeEdge(oneColour(n, 2, 1), i, j, 0)
				is, code = impl.IsLesserColoured(y, upTo(n))
				wantBool(t, "IsLesserColoured of all points but for an edge", is, code, i == n-2, impl.ErrNone)
			}
		}
	}
}

func TestL10IsLesserColouredOfNoSet(t *testing.T) {
	for n := int64(1); n <= impl.MaxPoints; n++ {
		x := oneColour(n, 2, 0)
		lists := [][]int64{
			{-1}, {n}, {n + 1}, {math.MinInt64}, {math.MaxInt64}, {1 << 32}, {-1 << 32}, {0, 0}, {n - 1, n - 1}, {n - 1, n}, {-1, 0}, {n, n + 1}, {0, n}, {0, 1 << 32},
			upTo(n + 1), append(upTo(n), 0), append(upTo(n), n-1), append([]int64{-1}, upTo(n)...), sameNumber(1000, 0), upTo(1000),
		}
		if n > 2 {
			lists = append(lists, []int64{1, 0}, []int64{0, 2, 1}, []int64{1, 0, 2}, []int64{0, 1, 1}, []int64{0, 0, 1}, []int64{2, 1, 0})
		}
		for _, list := range lists {
			is, code := impl.IsLesserColoured(x, list)
			wantBool(t, "IsLesserColoured of no set", is, code, false, impl.ErrRange)
		}
	}
}

// slopesOf returns the slopes from each point of a row to each later one.
func slopesOf(row [][]int64) [][]*big.Rat {
	slopes := make([][]*big.Rat, len(row))
	for i := range row {
		slopes[i] = make([]*big.Rat, len(row))
		for j := i + 1; j < len(row); j++ {
			slopes[i][j] = big.NewRat(row[j][1]-row[i][1], row[j][0]-row[i][0])
		}
	}
	return slopes
}

// greatestBend returns the greatest number of points of a list of points that begins with another one,
// and in which each slope has a sign against the one before it.
func greatestBend(slopes [][]*big.Rat, sign int, bend []int) int64 {
	greatest, m := int64(len(bend)), len(bend)
	least := 0
	if m > 0 {
		least = bend[m-1] + 1
	}
	for next := least; next < len(slopes); next++ {
		if m < 2 || slopes[bend[m-1]][next].Cmp(slopes[bend[m-2]][bend[m-1]]) == sign {
			greatest = max(greatest, greatestBend(slopes, sign, append(slices.Clip(bend), next)))
		}
	}
	return greatest
}

// wantBends checks the numbers of a row: those of the points of a cup and of a cap.
func wantBends(t *testing.T, what string, row [][]int64, cup int64, hat int64, wantCode int64) {
	t.Helper()
	cups, caps, code := impl.CupsAndCaps(row)
	if cups != cup || caps != hat || code != wantCode {
		t.Errorf("%s %v returns %d, %d and %d, not %d, %d and %d", what, row, cups, caps, code, cup, hat, wantCode)
	}
}

// mixedRow returns a row whose y follow no simple pattern, in 0..spread - 1 about the middle.
func mixedRow(m int64, step int64, spread int64, seed uint64) [][]int64 {
	state := seed*2654435761 + uint64(m*97+spread)
	next := func(limit int64) int64 {
		state = state*6364136223846793005 + 1442695040888963407
		return int64((state >> 33) % uint64(limit))
	}
	var row [][]int64
	x := int64(-1000)
	for range m {
		row = append(row, []int64{x, next(spread) - spread/2})
		x += 1 + next(step)
	}
	return row
}

// everyMixedRow calls a function with rows of all numbers of points, flat ones and steep ones.
func everyMixedRow(use func(row [][]int64)) {
	for m := int64(1); m <= impl.MaxPoints; m++ {
		for _, spread := range []int64{1, 2, 3, 5, 20, 400, 2001} {
			for _, step := range []int64{1, 2, 4, 118} {
				for seed := range uint64(8) {
					use(mixedRow(m, step, spread, seed))
				}
			}
		}
	}
}

func TestL10CupsAndCapsAgainstTheDefinition(t *testing.T) {
	everyMixedRow(func(row [][]int64) {
		slopes := slopesOf(row)
		wantBends(t, "CupsAndCaps", row, greatestBend(slopes, 1, nil), greatestBend(slopes, -1, nil), impl.ErrNone)
	})
}

func TestL10CupsAndCaps(t *testing.T) {
	for _, w := range []struct {
		row      [][]int64
		cup, hat int64
	}{
		{[][]int64{{0, 0}}, 1, 1},
		{[][]int64{{-1000, 1000}}, 1, 1},
		{[][]int64{{0, 0}, {1, 0}}, 2, 2},
		{[][]int64{{-1000, 1000}, {1000, -1000}}, 2, 2},
		// On a line.
		{[][]int64{{0, 0}, {1, 0}, {2, 0}}, 2, 2},
		{[][]int64{{-3, 5}, {0, 3}, {6, -1}, {9, -3}}, 2, 2},
		{[][]int64{{-1000, -1000}, {0, 0}, {999, 999}, {1000, 1000}}, 2, 2},
		// Three points that bend.
		{[][]int64{{0, 0}, {1, -1}, {2, 0}}, 3, 2},
		{[][]int64{{0, 0}, {1, 1}, {2, 0}}, 2, 3},
		{[][]int64{{0, 0}, {1, 3}, {2, 1}, {3, 4}}, 3, 3},
		// A point on the line of its neighbours is in no cup with both, but the others are.
		{[][]int64{{0, 2}, {1, 1}, {2, 0}, {3, 1}}, 3, 2},
		{[][]int64{{0, 4}, {1, 1}, {2, 0}, {3, 0}, {4, 1}, {5, 2}, {6, 6}}, 6, 2},
		// Slopes that whole numbers do not tell apart.
		{[][]int64{{-1000, -1000}, {-1, -2}, {999, 997}}, 3, 2},
		{[][]int64{{-1000, -1000}, {0, -1}, {999, 997}}, 2, 3},
		{[][]int64{{0, 0}, {2, 1}, {5, 3}, {9, 6}}, 4, 2},
		{[][]int64{{0, 0}, {3, -1}, {5, -2}, {6, -3}}, 2, 4},
		// The ends of the coordinates.
		{[][]int64{{-1000, 1000}, {0, -1000}, {1000, 1000}}, 3, 2},
		{[][]int64{{-1000, -1000}, {0, 1000}, {1000, -1000}}, 2, 3},
		{[][]int64{{-1000, 1000}, {-999, -1000}, {1000, -999}}, 3, 2},
		// Neither the first point nor the last one is in the greatest ones.
		{[][]int64{{0, 0}, {1, 10}, {2, 5}, {3, 4}, {4, 7}, {5, 0}}, 4, 4},
		// As many points as can be without a cup, and a cap, of four points.
		{[][]int64{{0, 0}, {1, 1}, {2, 1}, {3, 100}, {4, 100}, {5, 101}}, 3, 3},
	} {
		wantBends(t, "CupsAndCaps", w.row, w.cup, w.hat, impl.ErrNone)
		// Upside down, cups are caps.
		turned := slices.Clone(w.row)
		for place, point := range turned {
			turned[place] = []int64{point[0], -point[1]}
		}
		wantBends(t, "CupsAndCaps upside down", turned, w.hat, w.cup, impl.ErrNone)
		// From the right to the left they stay.
		slices.Reverse(turned)
		for place, point := range turned {
			turned[place] = []int64{-point[0], -point[1]}
		}
		wantBends(t, "CupsAndCaps from the right", turned, w.cup, w.hat, impl.ErrNone)
	}
}

// rowOf returns the row of m points from x = least on, each y being told by a rule.
func rowOf(m int64, least int64, step int64, rule func(x int64) int64) [][]int64 {
	var row [][]int64
	for place := range m {
		x := least + place*step
		row = append(row, []int64{x, rule(x)})
	}
	return row
}

func TestL10CupsAndCapsOfAllPoints(t *testing.T) {
	for m := int64(1); m <= impl.MaxPoints; m++ {
		few := min(m, 2)
		wantBends(t, "CupsAndCaps of a cup", rowOf(m, -8, 1, func(x int64) int64 { return x * x }), m, few, impl.ErrNone)
		wantBends(t, "CupsAndCaps of a cap", rowOf(m, -8, 1, func(x int64) int64 { return -x * x }), few, m, impl.ErrNone)
		wantBends(t, "CupsAndCaps of a wide cup", rowOf(m, -1000, 125, func(x int64) int64 { return x*x/500 - 1000 }), m, few, impl.ErrNone)
		wantBends(t, "CupsAndCaps of a line", rowOf(m, -1000, 125, func(x int64) int64 { return x }), few, few, impl.ErrNone)
		wantBends(t, "CupsAndCaps of a level", rowOf(m, 1000-m+1, 1, func(x int64) int64 { return -1000 }), few, few, impl.ErrNone)
	}
	for _, m := range []int64{18, 19, 100, 1000} {
		wantBends(t, "CupsAndCaps of too many points", rowOf(m, -1000, 1, func(x int64) int64 { return 0 }), 0, 0, impl.ErrRange)
	}
	wantBends(t, "CupsAndCaps of no point", nil, 0, 0, impl.ErrRange)
	wantBends(t, "CupsAndCaps of no point", [][]int64{}, 0, 0, impl.ErrRange)
}

func TestL10WrongRows(t *testing.T) {
	wrong := [][]int64{nil, {}, {0}, {7}, {0, 0, 0}, {7, 7, 7}, {0, 0, 0, 0}, make([]int64, 1000)}
	for _, beyond := range []int64{1001, -1001, 1 << 32, -1 << 32, 1<<56 + 7, math.MaxInt64, math.MinInt64, math.MinInt64 + 1} {
		wrong = append(wrong, []int64{beyond, 0}, []int64{7, beyond}, []int64{beyond, beyond})
	}
	for _, point := range wrong {
		wantBends(t, "CupsAndCaps of one wrong point", [][]int64{point}, 0, 0, impl.ErrRange)
		for m := int64(2); m <= impl.MaxPoints; m++ {
			for _, place := range []int64{0, m / 2, m - 1} {
				row := rowOf(m, 7-place, 1, func(x int64) int64 { return x * x })
				row[place] = point
				wantBends(t, "CupsAndCaps of a wrong point", row, 0, 0, impl.ErrRange)
			}
		}
	}
	for _, row := range [][][]int64{
		// Equal and descending x.
		{{0, 0}, {0, 0}}, {{0, 0}, {0, 1}}, {{0, 1}, {0, 0}}, {{1, 0}, {0, 0}}, {{0, 0}, {1, 5}, {1, 6}}, {{0, 0}, {0, 5}, {1, 6}}, {{0, 0}, {2, 5}, {1, 6}}, {{2, 0}, {1, 0}, {0, 0}},
		{{1000, 0}, {-1000, 0}}, {{1000, 0}, {1000, 1}}, {{-1000, 0}, {-1000, 0}}, {{0, 0}, {1, 1}, {2, 4}, {3, 9}, {3, 9}}, {{0, 0}, {1, 1}, {0, 4}},
		// Ascending only with wraparound.
		{{math.MaxInt64, 0}, {math.MinInt64, 0}}, {{math.MinInt64, 0}, {math.MaxInt64, 0}},
	} {
		wantBends(t, "CupsAndCaps of a wrong row", row, 0, 0, impl.ErrRange)
	}
	for _, place := range []int64{1, 8, 16} {
		row := rowOf(17, 0, 2, func(x int64) int64 { return x })
		row[place][0] = row[place-1][0]
		wantBends(t, "CupsAndCaps of equal x", row, 0, 0, impl.ErrRange)
		row[place][0]--
		wantBends(t, "CupsAndCaps of descending x", row, 0, 0, impl.ErrRange)
	}
}

// hasLine reports whether three points of a row are on a line.
func hasLine(row [][]int64) bool {
	slopes := slopesOf(row)
	for l := range row {
		for j := range l {
			for i := range j {
				if slopes[i][j].Cmp(slopes[j][l]) == 0 {
					return true
				}
			}
		}
	}
	return false
}

func TestL10CupNumber(t *testing.T) {
	everyTwo(2, 16, func(a int64, b int64) {
		number, code := impl.CupNumber(a, b)
		wantNumber(t, "CupNumber", number, code, quotient(a-1, b-1)+1, impl.ErrNone)
	})
	wantPairCases(t, "CupNumber", impl.CupNumber, []pairCase{
		{2, 2, 2}, {2, 3, 2}, {2, 16, 2}, {3, 3, 3}, {3, 4, 4}, {3, 16, 16}, {4, 4, 7}, {4, 5, 11}, {5, 5, 21}, {15, 16, 20058301}, {16, 16, 40116601},
	})
	wantOutside(t, "CupNumber", impl.CupNumber, 2, 16)
}

// Of as many points as the number tells, no three of which are on a line, some are a cup or a cap.
func TestL10CupNumbersAreReached(t *testing.T) {
	checked := 0
	everyMixedRow(func(row [][]int64) {
		if hasLine(row) {
			return
		}
		cups, caps, code := impl.CupsAndCaps(row)
		if cups > 15 || caps > 15 {
			return
		}
		checked++
		number, numberCode := impl.CupNumber(cups+1, caps+1)
		if code != impl.ErrNone || numberCode != impl.ErrNone || number <= int64(len(row)) {
			t.Errorf("%v has a cup of %d points and a cap of %d only: %d", row, cups, caps, number)
		}
	})
	if checked < 100 {
		t.Errorf("%d rows are looked at", checked)
	}
}

// upCalls returns the functions of one colour, as patternCalls does.
func upCalls() map[string]func(impl.Colouring, int64) (int64, bool) {
	return map[string]func(impl.Colouring, int64) (int64, bool){
		"LongestUp": func(x impl.Colouring, c int64) (int64, bool) {
			path, code := impl.LongestUp(x, c)
			return code, len(path) == 0
		},
		"UpLengths": func(x impl.Colouring, c int64) (int64, bool) {
			lengths, code := impl.UpLengths(x, c)
			return code, len(lengths) == 0
		},
		"IsClosedColour": func(x impl.Colouring, c int64) (int64, bool) {
			closed, code := impl.IsClosedColour(x, c)
			return code, !closed
		},
	}
}

// With no colouring, ErrInvalid comes whatever the other arguments are.
func TestL10NoColouring(t *testing.T) {
	for what, x := range wrongColourings() {
		for _, c := range []int64{0, 1, -1, 4, 99, math.MinInt64, math.MaxInt64} {
			wantError(t, upCalls(), x, c, impl.ErrInvalid)
		}
		order, code := impl.OrderOf(x)
		wantList(t, "OrderOf: "+what, order, code, nil, impl.ErrInvalid)
		part, code := impl.LesserPart(x)
		wantList(t, "LesserPart: "+what, part, code, nil, impl.ErrInvalid)
		for _, points := range [][]int64{nil, {0}, upTo(3), upTo(100), {-1}, {1, 0}, {0, 0}, {math.MinInt64}} {
			is, code := impl.IsLesserColoured(x, points)
			wantBool(t, "IsLesserColoured: "+what, is, code, false, impl.ErrInvalid)
		}
	}
	// What is no colouring is told before the numbers of colours and before colours that are not closed.
	for _, x := range []impl.Colouring{
		{Points: 3, Colours: 1, Edges: [136]byte{0, 1, 0}}, {Points: 3, Colours: 3, Edges: [136]byte{135: 1}}, {Points: 3, Colours: 2, Edges: [136]byte{0, 1, 0, 1}}, {Points: 3, Colours: 5},
	} {
		order, code := impl.OrderOf(x)
		wantList(t, "OrderOf no colouring", order, code, nil, impl.ErrInvalid)
	}
}

func TestL10WrongColours(t *testing.T) {
	for n := int64(1); n <= impl.MaxPoints; n++ {
		for k := int64(1); k <= impl.MaxColours; k++ {
			for _, c := range []int64{-1, k, k + 1, 255, 256, 1 << 32, -1 << 32, 1<<56 + 1, math.MinInt64, math.MaxInt64} {
				wantError(t, upCalls(), oneColour(n, k, 0), c, impl.ErrRange)
			}
		}
	}
}

func TestL10ListsStayAsTheyAre(t *testing.T) {
	x := named(t, "pentagon")
	for _, list := range [][]int64{nil, {0, 1, 4}, {4, 1, 0}, {3, 3, 1}, {9, 2, 7, 1}, {2, 9}, {5, 4, 3, 2, 1, 0}} {
		given := withSpare(list...)
		impl.SequenceColouring(given)
		impl.IsLesserColoured(x, given)
		impl.CupsAndCaps([][]int64{given})
		if !slices.Equal(given[:len(list)+3], append(slices.Clone(list), 77, 77, 77)) {
			t.Errorf("%v is changed to %v", list, given[:len(list)+3])
		}
	}
	for _, list := range [][][]int64{{{0, 1}, {2, 0}, {3, 5}}, {{-7, 1}, {-7, 0}}, {{1, 2}, {3}}, {{5, 5}, {1, 1}}, {{2000, 3}}} {
		given := make([][]int64, 0, 9)
		for _, point := range list {
			given = append(given, withSpare(point...))
		}
		spare := append(given, []int64{77})
		impl.CupsAndCaps(given)
		if !sameLists(given, list) || !slices.Equal(spare[len(list)], []int64{77}) {
			t.Errorf("%v is changed to %v", list, spare)
		}
		for _, point := range given {
			if !slices.Equal(point[len(point):len(point)+3], []int64{77, 77, 77}) {
				t.Errorf("what is behind %v is changed", point)
			}
		}
	}
}

// Writing to a result, or behind it, must not show in another one.
func TestL10ResultsAreNew(t *testing.T) {
	x := named(t, "pentagon")
	list := []int64{5, 9, 2, 7}
	y, _ := impl.SequenceColouring(list)
	for what, get := range map[string]func() []int64{
		"LongestUp":  func() []int64 { path, _ := impl.LongestUp(x, 0); return path },
		"UpLengths":  func() []int64 { lengths, _ := impl.UpLengths(x, 1); return lengths },
		"OrderOf":    func() []int64 { order, _ := impl.OrderOf(y); return order },
		"LesserPart": func() []int64 { part, _ := impl.LesserPart(x); return part },
	} {
		first := get()
		kept := slices.Clone(first)
		full := first[:cap(first)]
		for place := range full {
			full[place] = -77
		}
		if second := get(); len(kept) == 0 || !slices.Equal(second, kept) {
			t.Errorf("%s: a result is changed: %v and %v", what, second, kept)
		}
	}
	if !slices.Equal(list, []int64{5, 9, 2, 7}) {
		t.Errorf("the sequence is changed to %v", list)
	}
}
