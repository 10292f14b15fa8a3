package tests

import (
	"math"
	"math/bits"
	"slices"
	"testing"

	"loop.example/g01362/impl"
)

// The kinds of patterns.
const (
	ofPath = iota
	ofCycle
	ofStar
	ofMatching
	ofDouble
	ofBook
	kinds
)

// hasColour reports whether two points are different and their edge has a colour.
func hasColour(x impl.Colouring, c int64, i int64, j int64) bool {
	return i != j && colourIn(x, i, j) == c
}

// nearSet returns the neighbours of a point in a colour as bits.
func nearSet(x impl.Colouring, c int64, p int64) int {
	set := 0
	for q := range x.Points {
		if hasColour(x, c, p, q) {
			set |= 1 << q
		}
	}
	return set
}

// isPathByDefinition reports whether a list is a path in a colour.
func isPathByDefinition(x impl.Colouring, c int64, path []int64) bool {
	for place, p := range path {
		if p < 0 || p >= x.Points || slices.Contains(path[:place], p) {
			return false
		}
		if place > 0 && !hasColour(x, c, path[place-1], p) {
			return false
		}
	}
	return len(path) > 0
}

// isCycleByDefinition reports whether a list is a cycle in a colour.
func isCycleByDefinition(x impl.Colouring, c int64, list []int64) bool {
	if len(list) < 3 || !isPathByDefinition(x, c, list) {
		return false
	}
	last := list[len(list)-1]
	return hasColour(x, c, list[0], last) && slices.Min(list) == list[0] && list[1] < last
}

// everyPathFrom calls a function with all paths that a path begins, in their order, itself first.
func everyPathFrom(x impl.Colouring, c int64, path []int64, use func(path []int64)) {
	if len(path) > 0 {
		use(path)
	}
	for p := range x.Points {
		if slices.Contains(path, p) || len(path) > 0 && !hasColour(x, c, path[len(path)-1], p) {
			continue
		}
		everyPathFrom(x, c, append(slices.Clip(path), p), use)
	}
}

// patterns has what the definitions say of one colour.
type patterns struct {
	longest  []int64
	cycles   map[int64][]int64 // by the number of points, the first one
	centre   int64
	rays     int64
	matching [][]int64
	double   []int64 // nil if there is none, as book
	points   int64
	book     []int64
	pages    int64
}

// searchPaths finds the longest path and the first cycles from a look at every path.
func (w *patterns) searchPaths(x impl.Colouring, c int64) {
	w.longest, w.cycles = nil, map[int64][]int64{}
	everyPathFrom(x, c, nil, func(path []int64) {
		if len(path) > len(w.longest) {
			w.longest = slices.Clone(path)
		}
		m := int64(len(path))
		if w.cycles[m] == nil && isCycleByDefinition(x, c, path) {
			w.cycles[m] = slices.Clone(path)
		}
	})
}

// startTable returns, for each set of points within a set, at which points a path starts that has
// just these points and ends at one of some points.
func startTable(x impl.Colouring, c int64, within int, ends int) []int {
	table := make([]int, 1<<x.Points)
	for set := 1; set < len(table); set++ {
		if set&^within != 0 {
			continue
		}
		for p := range x.Points {
			rest := set &^ (1 << p)
			if rest == set {
				continue
			}
			if rest == 0 && ends>>p&1 == 1 || table[rest]&nearSet(x, c, p) != 0 {
				table[set] |= 1 << p
			}
		}
	}
	return table
}

// leastOfTable returns the least path of m points of a table that starts at one of some points, or
// nil. Each point is the least with which any set of the table goes on.
func leastOfTable(x impl.Colouring, c int64, table []int, m int64, starts int) []int64 {
	var path []int64
	passed := 0
	for left := m; left > 0; left-- {
		next := 0
		for set, of := range table {
			if set&passed == 0 && int64(bits.OnesCount(uint(set))) == left {
				next |= of & starts
			}
		}
		if next == 0 {
			return nil
		}
		p := int64(bits.TrailingZeros(uint(next)))
		path, passed, starts = append(path, p), passed|1<<p, nearSet(x, c, p)
	}
	return path
}

// tabulatePaths finds the same as searchPaths from tables of sets, for colours with many paths.
func (w *patterns) tabulatePaths(x impl.Colouring, c int64) {
	w.longest, w.cycles = nil, map[int64][]int64{}
	all := 1<<x.Points - 1
	table := startTable(x, c, all, all)
	for m := x.Points; w.longest == nil; m-- {
		w.longest = leastOfTable(x, c, table, m, all)
	}
	for first := range x.Points {
		greater := all &^ (1<<(first+1) - 1)
		near := nearSet(x, c, first)
		table := startTable(x, c, greater, near)
		for m := int64(3); m <= x.Points-first; m++ {
			rest := leastOfTable(x, c, table, m-1, near)
			if rest != nil && w.cycles[m] == nil {
				w.cycles[m] = append([]int64{first}, rest...)
			}
		}
	}
}

// countStarsAndDoubles finds the greatest star, double and book.
func (w *patterns) countStarsAndDoubles(x impl.Colouring, c int64) {
	w.rays, w.points, w.pages = -1, -1, -1
	for i := range x.Points {
		if rays := int64(bits.OnesCount(uint(nearSet(x, c, i)))); rays > w.rays {
			w.centre, w.rays = i, rays
		}
		for j := i + 1; j < x.Points; j++ {
			common := int64(0)
			for p := range x.Points {
				if hasColour(x, c, i, p) && hasColour(x, c, j, p) {
					common++
				}
			}
			if common > w.points {
				w.double, w.points = []int64{i, j}, common
			}
			if hasColour(x, c, i, j) && common > w.pages {
				w.book, w.pages = []int64{i, j}, common
			}
		}
	}
}

// everyMatchingFrom calls a function with all matchings that a matching begins, in their order.
func everyMatchingFrom(x impl.Colouring, c int64, matching [][]int64, use func(matching [][]int64)) {
	use(matching)
	least, taken := int64(0), slices.Concat(matching...)
	if len(matching) > 0 {
		least = matching[len(matching)-1][0] + 1
	}
	for i := least; i < x.Points; i++ {
		for j := i + 1; j < x.Points; j++ {
			if hasColour(x, c, i, j) && !slices.Contains(taken, i) && !slices.Contains(taken, j) {
				everyMatchingFrom(x, c, append(slices.Clip(matching), []int64{i, j}), use)
			}
		}
	}
}

// searchMatchings finds the greatest matching from a look at every one.
func (w *patterns) searchMatchings(x impl.Colouring, c int64) {
	w.matching = nil
	everyMatchingFrom(x, c, nil, func(matching [][]int64) {
		if len(matching) > len(w.matching) {
			w.matching = slices.Clone(matching)
		}
	})
}

// tabulateMatchings finds the same as searchMatchings from a table of sets, for many points: pair by
// pair, each one is taken if the points left then still have enough edges.
func (w *patterns) tabulateMatchings(x impl.Colouring, c int64) {
	w.matching = nil
	numbers := make([]int64, 1<<x.Points)
	var near []int
	for p := range x.Points {
		near = append(near, nearSet(x, c, p))
	}
	for set := 1; set < len(numbers); set++ {
		last := bits.Len(uint(set)) - 1
		rest := set &^ (1 << last)
		numbers[set] = numbers[rest]
		for others := rest & near[last]; others != 0; others &= others - 1 {
			other := others & -others
			numbers[set] = max(numbers[set], 1+numbers[rest&^other])
		}
	}
	free := len(numbers) - 1
	for i := range x.Points {
		for j := i + 1; j < x.Points; j++ {
			pair := 1<<i | 1<<j
			if free&pair == pair && hasColour(x, c, i, j) && int64(len(w.matching))+1+numbers[free&^pair] == numbers[len(numbers)-1] {
				w.matching, free = append(w.matching, []int64{i, j}), free&^pair
			}
		}
	}
}

// has reports whether there is a pattern of a kind and m.
func (w *patterns) has(kind int64, m int64) bool {
	switch kind {
	case ofPath:
		return int64(len(w.longest)) >= m
	case ofCycle:
		return w.cycles[m] != nil
	case ofStar:
		return w.rays >= m
	case ofMatching:
		return int64(len(w.matching)) >= m
	case ofDouble:
		return w.double != nil && w.points >= m
	}
	return w.book != nil && w.pages >= m
}

// patternsByDefinition returns the patterns of a colour. There are no paths and cycles if there are
// more than MaxPattern points.
func patternsByDefinition(x impl.Colouring, c int64) patterns {
	var w patterns
	w.countStarsAndDoubles(x, c)
	if x.Points <= 6 {
		w.searchPaths(x, c)
		w.searchMatchings(x, c)
		return w
	}
	w.tabulateMatchings(x, c)
	if x.Points <= impl.MaxPattern {
		w.tabulatePaths(x, c)
	}
	return w
}

// wantPairs checks a list of lists that has no limit.
func wantPairs(t *testing.T, what string, lists [][]int64, code int64, want [][]int64, wantCode int64) {
	t.Helper()
	if code != wantCode || !sameLists(lists, want) {
		t.Errorf("%s returns %v and %d, not %v and %d", what, lists, code, want, wantCode)
	}
}

// wantCounted checks two points and a number, or that there are none.
func wantCounted(t *testing.T, what string, points []int64, number int64, code int64, want []int64, wantNumber int64) {
	t.Helper()
	wantCode := int64(impl.ErrNone)
	if want == nil {
		wantNumber, wantCode = 0, impl.ErrNotFound
	}
	if code != wantCode || number != wantNumber || !slices.Equal(points, want) {
		t.Errorf("%s returns %v, %d and %d, not %v, %d and %d", what, points, number, code, want, wantNumber, wantCode)
	}
}

// checkPaths compares the functions of paths and cycles with the definitions, or with the limit.
func checkPaths(t *testing.T, x impl.Colouring, c int64, w patterns) {
	t.Helper()
	limit := int64(impl.ErrNone)
	if x.Points > impl.MaxPattern {
		limit = impl.ErrLimit
	}
	path, code := impl.LongestPath(x, c)
	wantList(t, "LongestPath", path, code, w.longest, limit)
	var wantLengths []int64
	for m := int64(3); m <= impl.MaxPoints; m++ {
		wantCode := limit
		if w.cycles[m] != nil {
			wantLengths = append(wantLengths, m)
		} else if limit == impl.ErrNone {
			wantCode = impl.ErrNotFound
		}
		cycle, code := impl.FirstCycle(x, c, m)
		wantList(t, "FirstCycle", cycle, code, w.cycles[m], wantCode)
	}
	lengths, code := impl.CycleLengths(x, c)
	wantList(t, "CycleLengths", lengths, code, wantLengths, limit)
}

// checkAvoids compares AvoidsPattern with the definitions, or with the limit.
func checkAvoids(t *testing.T, x impl.Colouring, c int64, w patterns) {
	t.Helper()
	for kind := range int64(kinds) {
		for m := int64(1); m <= impl.MaxPoints; m++ {
			avoids, code := impl.AvoidsPattern(x, c, kind, m)
			if x.Points > impl.MaxPattern && kind <= ofCycle {
				wantBool(t, "AvoidsPattern of many points", avoids, code, false, impl.ErrLimit)
				continue
			}
			if code != impl.ErrNone || avoids == w.has(kind, m) {
				t.Errorf("AvoidsPattern(%v, %d, %d, %d) returns %v and %d", x, c, kind, m, avoids, code)
			}
		}
	}
}

// checkPatterns compares all functions of patterns with the definitions.
func checkPatterns(t *testing.T, x impl.Colouring, c int64) {
	t.Helper()
	w := patternsByDefinition(x, c)
	checkPaths(t, x, c, w)
	checkAvoids(t, x, c, w)
	centre, rays, code := impl.GreatestStar(x, c)
	if centre != w.centre || rays != w.rays || code != impl.ErrNone {
		t.Errorf("GreatestStar(%v, %d) returns %d, %d and %d, not %d and %d", x, c, centre, rays, code, w.centre, w.rays)
	}
	matching, code := impl.GreatestMatching(x, c)
	wantPairs(t, "GreatestMatching", matching, code, w.matching, impl.ErrNone)
	double, points, code := impl.GreatestDouble(x, c)
	wantCounted(t, "GreatestDouble", double, points, code, w.double, w.points)
	book, pages, code := impl.GreatestBook(x, c)
	wantCounted(t, "GreatestBook", book, pages, code, w.book, w.pages)
}

// walksByDefinition returns between which points there are walks in a colour, by the numbers of
// their steps modulo 2.
func walksByDefinition(x impl.Colouring, c int64) [2][][]bool {
	var walks [2][][]bool
	for rest := range walks {
		for i := range x.Points {
			row := make([]bool, x.Points)
			for j := range x.Points {
				row[j] = rest == 0 && i == j || rest == 1 && hasColour(x, c, i, j)
			}
			walks[rest] = append(walks[rest], row)
		}
	}
	for range 2 { // each point counts as two between others, after even and after odd numbers of steps
		for between := range x.Points {
			for i := range x.Points {
				for j := range x.Points {
					for _, rests := range [][3]int{{0, 0, 0}, {0, 1, 1}, {1, 0, 1}, {1, 1, 0}} {
						if walks[rests[0]][i][between] && walks[rests[1]][between][j] {
							walks[rests[2]][i][j] = true
						}
					}
				}
			}
		}
	}
	return walks
}

// componentsByDefinition returns the components of a colour.
func componentsByDefinition(x impl.Colouring, walks [2][][]bool) [][]int64 {
	var components [][]int64
	for i := range x.Points {
		var component []int64
		for j := range x.Points {
			if walks[0][i][j] || walks[1][i][j] {
				component = append(component, j)
			}
		}
		if component[0] == i {
			components = append(components, component)
		}
	}
	return components
}

// areSides reports whether a list of sides is right for a colour.
func areSides(x impl.Colouring, c int64, sides []int64) bool {
	for j := range x.Points {
		for i := range j {
			if hasColour(x, c, i, j) && sides[i] == sides[j] {
				return false
			}
		}
	}
	return true
}

// sidesByDefinition returns the least list of sides, or nil: for few points from a look at every
// list, for many from the walks to the least point of each component.
func sidesByDefinition(x impl.Colouring, c int64, walks [2][][]bool) []int64 {
	if x.Points <= 8 {
		for number := range int64(1) << x.Points {
			if sides := coloursNumbered(x.Points, number); areSides(x, c, sides) {
				return sides
			}
		}
		return nil
	}
	sides := make([]int64, x.Points)
	for i := range x.Points {
		if walks[1][i][i] {
			return nil
		}
		for j := x.Points - 1; j >= 0; j-- {
			if walks[0][i][j] || walks[1][i][j] {
				sides[i] = map[bool]int64{true: 1, false: 0}[walks[1][i][j]]
			}
		}
	}
	return sides
}

// checkParts compares the functions of components and sides with the definitions.
func checkParts(t *testing.T, x impl.Colouring) {
	t.Helper()
	var wantConnected []int64
	for c := range x.Colours {
		walks := walksByDefinition(x, c)
		want := componentsByDefinition(x, walks)
		components, code := impl.ComponentsOf(x, c)
		wantPairs(t, "ComponentsOf", components, code, want, impl.ErrNone)
		if len(want) == 1 {
			wantConnected = append(wantConnected, c)
		}
		wantSides := sidesByDefinition(x, c, walks)
		wantCode := int64(impl.ErrNone)
		if wantSides == nil {
			wantCode = impl.ErrNotFound
		}
		sides, code := impl.SidesOf(x, c)
		wantList(t, "SidesOf", sides, code, wantSides, wantCode)
	}
	connected, code := impl.ConnectedColours(x)
	wantList(t, "ConnectedColours", connected, code, wantConnected, impl.ErrNone)
}

// everyColouring calls a function with all colourings of n points with two colours.
func everyColouring(n int64, use func(x impl.Colouring)) {
	used := n * (n - 1) / 2
	for number := range 1 << used {
		x := impl.Colouring{Points: n, Colours: 2}
		for e := range used {
			x.Edges[e] = byte(number >> e & 1)
		}
		use(x)
	}
}

// withOnly returns a colouring of two colours in which just the given edges have the colour 0.
func withOnly(n int64, pairs ...[2]int64) impl.Colouring {
	return byRule(n, 2, func(i int64, j int64) int64 {
		if slices.Contains(pairs, [2]int64{i, j}) || slices.Contains(pairs, [2]int64{j, i}) {
			return 0
		}
		return 1
	})
}

// groupedCases returns colourings with many points on few sides or in few groups, in their order
// and mixed.
func groupedCases(t *testing.T) []impl.Colouring {
	t.Helper()
	var cases []impl.Colouring
	for _, sizes := range [][]int64{
		{1, 1}, {2, 2}, {5, 6}, {4, 7}, {3, 8}, {1, 10}, {10, 1}, {5, 5}, {2, 9}, {9, 1, 1}, {4, 4, 3}, {3, 3, 3, 2}, {2, 2, 2, 2, 2, 1}, {6, 1, 4},
		{8, 9}, {16, 1}, {1, 16}, {2, 15}, {12, 5}, {6, 6, 5}, {5, 5, 5, 1, 1}, {7, 5},
	} {
		x := inGroups(sizes...)
		cases = append(cases, x)
		for seed := range uint64(3) {
			y, code := impl.RenumberPoints(x, mixedList(x.Points, seed))
			if code != impl.ErrNone {
				t.Fatalf("RenumberPoints returns the code %d", code)
			}
			cases = append(cases, y)
		}
	}
	return cases
}

// everyPatternCase calls a function with colourings of all shapes, with some of one colour, and
// with some in groups.
func everyPatternCase(t *testing.T, use func(x impl.Colouring)) {
	t.Helper()
	everyShape(use)
	for n := int64(1); n <= impl.MaxPoints; n++ {
		use(oneColour(n, 1, 0))
		use(oneColour(n, 4, 3))
	}
	for _, x := range groupedCases(t) {
		use(x)
	}
	for _, name := range []string{"pentagon", "eight", "thirteen", "sixteen", "seventeen"} {
		use(named(t, name))
	}
}

func TestL04MaxPattern(t *testing.T) {
	if impl.MaxPattern != 11 {
		t.Errorf("MaxPattern is %d", impl.MaxPattern)
	}
}

func TestL04EveryColouringOfFewPoints(t *testing.T) {
	for n := int64(1); n <= 5; n++ {
		everyColouring(n, func(x impl.Colouring) {
			checkPatterns(t, x, 0)
			checkPatterns(t, x, 1)
			checkParts(t, x)
		})
	}
}

func TestL04AgainstTheDefinition(t *testing.T) {
	everyPatternCase(t, func(x impl.Colouring) {
		for c := range x.Colours {
			checkPatterns(t, x, c)
		}
		checkParts(t, x)
	})
}

// The tables, with which many points are checked, tell the same as a look at everything.
func TestL04TheTablesAreRight(t *testing.T) {
	check := func(x impl.Colouring, c int64) {
		var searched, tabulated patterns
		searched.searchPaths(x, c)
		searched.searchMatchings(x, c)
		tabulated.tabulatePaths(x, c)
		tabulated.tabulateMatchings(x, c)
		if !slices.Equal(searched.longest, tabulated.longest) || !sameLists(searched.matching, tabulated.matching) {
			t.Errorf("%v, %d: %v and %v are not %v and %v", x, c, tabulated.longest, tabulated.matching, searched.longest, searched.matching)
		}
		for m := int64(0); m <= x.Points; m++ {
			if !slices.Equal(searched.cycles[m], tabulated.cycles[m]) {
				t.Errorf("%v, %d: %v is not %v", x, c, tabulated.cycles[m], searched.cycles[m])
			}
		}
	}
	for n := int64(1); n <= 8; n++ {
		for k := int64(2); k <= impl.MaxColours; k++ {
			check(mixed(n, k, 11), 0)
			check(mixed(n, k, 12), k-1)
		}
	}
	check(oneColour(7, 1, 0), 0)
	check(mixed(11, 4, 13), 2)
}

// Promise 4: longest paths are paths.
func TestL04LongestPathsArePaths(t *testing.T) {
	everyPatternCase(t, func(x impl.Colouring) {
		if x.Points > impl.MaxPattern {
			return
		}
		for c := range x.Colours {
			path, code := impl.LongestPath(x, c)
			if code != impl.ErrNone || !isPathByDefinition(x, c, path) {
				t.Errorf("LongestPath(%v, %d) returns %v and %d, which is no path", x, c, path, code)
			}
			for place := 1; place < len(path); place++ {
				colour, code := impl.ColourOf(x, path[place-1], path[place])
				wantNumber(t, "ColourOf of an edge of a path", colour, code, c, impl.ErrNone)
			}
			avoids, code := impl.AvoidsPattern(x, c, ofPath, int64(len(path)))
			wantBool(t, "AvoidsPattern of the longest path", avoids, code, false, impl.ErrNone)
			avoids, code = impl.AvoidsPattern(x, c, ofPath, int64(len(path))+1)
			wantBool(t, "AvoidsPattern of a longer path", avoids, code, true, impl.ErrNone)
		}
	})
}

// Promise 4: one of two colours is connected.
func TestL04OneOfTwoColoursIsConnected(t *testing.T) {
	check := func(x impl.Colouring) {
		if x.Colours != 2 {
			return
		}
		connected, code := impl.ConnectedColours(x)
		if code != impl.ErrNone || len(connected) == 0 {
			t.Errorf("ConnectedColours(%v) returns %v and %d", x, connected, code)
		}
		for c := range x.Colours {
			components, code := impl.ComponentsOf(x, c)
			if code != impl.ErrNone || (len(components) == 1) != slices.Contains(connected, c) {
				t.Errorf("ComponentsOf(%v, %d) returns %v and %d, but %v are connected", x, c, components, code, connected)
			}
		}
	}
	for n := int64(1); n <= 6; n++ {
		everyColouring(n, check)
	}
	everyPatternCase(t, check)
}

// Cycles are cycles, and their lengths those of first cycles.
func TestL04CyclesAreCycles(t *testing.T) {
	everyPatternCase(t, func(x impl.Colouring) {
		if x.Points > impl.MaxPattern {
			return
		}
		for c := range x.Colours {
			lengths, code := impl.CycleLengths(x, c)
			if code != impl.ErrNone {
				t.Errorf("CycleLengths(%v, %d) returns %d", x, c, code)
			}
			for _, m := range lengths {
				cycle, code := impl.FirstCycle(x, c, m)
				if code != impl.ErrNone || int64(len(cycle)) != m || !isCycleByDefinition(x, c, cycle) {
					t.Errorf("FirstCycle(%v, %d, %d) returns %v and %d, which is no such cycle", x, c, m, cycle, code)
				}
			}
		}
	})
}

// The guarantee: matchings have no point twice, and components part the points.
func TestL04MatchingsAndComponentsPartPoints(t *testing.T) {
	everyPatternCase(t, func(x impl.Colouring) {
		for c := range x.Colours {
			matching, code := impl.GreatestMatching(x, c)
			points := slices.Sorted(slices.Values(slices.Concat(matching...)))
			if code != impl.ErrNone || len(slices.Compact(points)) != 2*len(matching) {
				t.Errorf("GreatestMatching(%v, %d) returns %v and %d", x, c, matching, code)
			}
			for _, pair := range matching {
				if pair[0] >= pair[1] || !hasColour(x, c, pair[0], pair[1]) {
					t.Errorf("GreatestMatching(%v, %d) has the pair %v", x, c, pair)
				}
			}
			components, code := impl.ComponentsOf(x, c)
			points = slices.Sorted(slices.Values(slices.Concat(components...)))
			wantList(t, "ComponentsOf, all points", points, code, upTo(x.Points), impl.ErrNone)
		}
	})
}

func TestL04Pentagon(t *testing.T) {
	x := named(t, "pentagon")
	path, code := impl.LongestPath(x, 0)
	wantList(t, "LongestPath", path, code, []int64{0, 1, 2, 3, 4}, impl.ErrNone)
	path, code = impl.LongestPath(x, 1)
	wantList(t, "LongestPath", path, code, []int64{0, 2, 4, 1, 3}, impl.ErrNone)
	lengths, code := impl.CycleLengths(x, 0)
	wantList(t, "CycleLengths", lengths, code, []int64{5}, impl.ErrNone)
	cycle, code := impl.FirstCycle(x, 1, 5)
	wantList(t, "FirstCycle", cycle, code, []int64{0, 2, 4, 1, 3}, impl.ErrNone)
	cycle, code = impl.FirstCycle(x, 1, 4)
	wantList(t, "FirstCycle", cycle, code, nil, impl.ErrNotFound)
	matching, code := impl.GreatestMatching(x, 0)
	wantPairs(t, "GreatestMatching", matching, code, [][]int64{{0, 1}, {2, 3}}, impl.ErrNone)
	matching, code = impl.GreatestMatching(x, 1)
	wantPairs(t, "GreatestMatching", matching, code, [][]int64{{0, 2}, {1, 3}}, impl.ErrNone)
	double, points, code := impl.GreatestDouble(x, 0)
	wantCounted(t, "GreatestDouble", double, points, code, []int64{0, 2}, 1)
	book, pages, code := impl.GreatestBook(x, 0)
	wantCounted(t, "GreatestBook", book, pages, code, []int64{0, 1}, 0)
	book, pages, code = impl.GreatestBook(x, 1)
	wantCounted(t, "GreatestBook", book, pages, code, []int64{0, 2}, 0)
	connected, code := impl.ConnectedColours(x)
	wantList(t, "ConnectedColours", connected, code, []int64{0, 1}, impl.ErrNone)
	sides, code := impl.SidesOf(x, 0)
	wantList(t, "SidesOf", sides, code, nil, impl.ErrNotFound)
}

func TestL04OnePoint(t *testing.T) {
	for k := int64(1); k <= impl.MaxColours; k++ {
		x := oneColour(1, k, 0)
		for c := range k {
			path, code := impl.LongestPath(x, c)
			wantList(t, "LongestPath", path, code, []int64{0}, impl.ErrNone)
			lengths, code := impl.CycleLengths(x, c)
			wantList(t, "CycleLengths", lengths, code, nil, impl.ErrNone)
			cycle, code := impl.FirstCycle(x, c, 3)
			wantList(t, "FirstCycle", cycle, code, nil, impl.ErrNotFound)
			centre, rays, code := impl.GreatestStar(x, c)
			wantNumber(t, "GreatestStar", centre, code, 0, impl.ErrNone)
			wantNumber(t, "GreatestStar", rays, code, 0, impl.ErrNone)
			matching, code := impl.GreatestMatching(x, c)
			wantPairs(t, "GreatestMatching", matching, code, nil, impl.ErrNone)
			double, points, code := impl.GreatestDouble(x, c)
			wantCounted(t, "GreatestDouble", double, points, code, nil, 0)
			book, pages, code := impl.GreatestBook(x, c)
			wantCounted(t, "GreatestBook", book, pages, code, nil, 0)
			components, code := impl.ComponentsOf(x, c)
			wantPairs(t, "ComponentsOf", components, code, [][]int64{{0}}, impl.ErrNone)
			sides, code := impl.SidesOf(x, c)
			wantList(t, "SidesOf", sides, code, []int64{0}, impl.ErrNone)
			for kind := range int64(kinds) {
				avoids, code := impl.AvoidsPattern(x, c, kind, 1)
				wantBool(t, "AvoidsPattern", avoids, code, kind != ofPath, impl.ErrNone)
			}
		}
		connected, code := impl.ConnectedColours(x)
		wantList(t, "ConnectedColours", connected, code, upTo(k), impl.ErrNone)
	}
}

// neighbouringPairs returns the pairs 0 1, 2 3, .. of n points.
func neighbouringPairs(n int64) [][]int64 {
	var pairs [][]int64
	for i := int64(1); i < n; i += 2 {
		pairs = append(pairs, []int64{i - 1, i})
	}
	return pairs
}

// In a colour that every edge has, all patterns are the greatest that there may be.
func TestL04ColourOfEveryEdge(t *testing.T) {
	for n := int64(2); n <= impl.MaxPoints; n++ {
		x := oneColour(n, 3, 2)
		if n <= impl.MaxPattern {
			path, code := impl.LongestPath(x, 2)
			wantList(t, "LongestPath", path, code, upTo(n), impl.ErrNone)
			lengths, code := impl.CycleLengths(x, 2)
			wantList(t, "CycleLengths", lengths, code, upTo(n + 1)[3:], impl.ErrNone)
			for m := int64(3); m <= n; m++ {
				cycle, code := impl.FirstCycle(x, 2, m)
				wantList(t, "FirstCycle", cycle, code, upTo(m), impl.ErrNone)
			}
			cycle, code := impl.FirstCycle(x, 2, n+3)
			wantList(t, "FirstCycle of too many points", cycle, code, nil, impl.ErrNotFound)
		}
		centre, rays, code := impl.GreatestStar(x, 2)
		wantNumber(t, "GreatestStar", centre, code, 0, impl.ErrNone)
		wantNumber(t, "GreatestStar", rays, code, n-1, impl.ErrNone)
		matching, code := impl.GreatestMatching(x, 2)
		wantPairs(t, "GreatestMatching", matching, code, neighbouringPairs(n), impl.ErrNone)
		double, points, code := impl.GreatestDouble(x, 2)
		wantCounted(t, "GreatestDouble", double, points, code, []int64{0, 1}, n-2)
		book, pages, code := impl.GreatestBook(x, 2)
		wantCounted(t, "GreatestBook", book, pages, code, []int64{0, 1}, n-2)
		components, code := impl.ComponentsOf(x, 2)
		wantPairs(t, "ComponentsOf", components, code, [][]int64{upTo(n)}, impl.ErrNone)
		connected, code := impl.ConnectedColours(x)
		wantList(t, "ConnectedColours", connected, code, []int64{2}, impl.ErrNone)
		sides, code := impl.SidesOf(x, 2)
		if n == 2 {
			wantList(t, "SidesOf", sides, code, []int64{0, 1}, impl.ErrNone)
		} else {
			wantList(t, "SidesOf", sides, code, nil, impl.ErrNotFound)
		}
	}
}

// In a colour that no edge has, there is a path of one point, and a star and a double of none.
func TestL04ColourOfNoEdge(t *testing.T) {
	for n := int64(2); n <= impl.MaxPoints; n++ {
		x := oneColour(n, 3, 2)
		if n <= impl.MaxPattern {
			path, code := impl.LongestPath(x, 1)
			wantList(t, "LongestPath", path, code, []int64{0}, impl.ErrNone)
			lengths, code := impl.CycleLengths(x, 1)
			wantList(t, "CycleLengths", lengths, code, nil, impl.ErrNone)
		}
		centre, rays, code := impl.GreatestStar(x, 1)
		wantNumber(t, "GreatestStar", centre, code, 0, impl.ErrNone)
		wantNumber(t, "GreatestStar", rays, code, 0, impl.ErrNone)
		matching, code := impl.GreatestMatching(x, 1)
		wantPairs(t, "GreatestMatching", matching, code, nil, impl.ErrNone)
		double, points, code := impl.GreatestDouble(x, 1)
		wantCounted(t, "GreatestDouble", double, points, code, []int64{0, 1}, 0)
		book, pages, code := impl.GreatestBook(x, 1)
		wantCounted(t, "GreatestBook", book, pages, code, nil, 0)
		var alone [][]int64
		for p := range n {
			alone = append(alone, []int64{p})
		}
		components, code := impl.ComponentsOf(x, 1)
		wantPairs(t, "ComponentsOf", components, code, alone, impl.ErrNone)
		sides, code := impl.SidesOf(x, 1)
		wantList(t, "SidesOf", sides, code, make([]int64, n), impl.ErrNone)
		for kind := int64(ofStar); kind < kinds; kind++ {
			avoids, code := impl.AvoidsPattern(x, 1, kind, 1)
			wantBool(t, "AvoidsPattern", avoids, code, true, impl.ErrNone)
		}
	}
}

func TestL04TheLeastOfEqualAnswers(t *testing.T) {
	// The path has two ends; the lesser one comes first, whatever lies between.
	path, code := impl.LongestPath(withOnly(5, [2]int64{1, 4}, [2]int64{4, 0}, [2]int64{0, 3}, [2]int64{3, 2}), 0)
	wantList(t, "LongestPath", path, code, []int64{1, 4, 0, 3, 2}, impl.ErrNone)
	path, code = impl.LongestPath(withOnly(6, [2]int64{4, 5}, [2]int64{5, 3}, [2]int64{0, 2}, [2]int64{2, 1}), 0)
	wantList(t, "LongestPath in two components", path, code, []int64{0, 2, 1}, impl.ErrNone)
	path, code = impl.LongestPath(withOnly(6, [2]int64{4, 5}, [2]int64{5, 3}, [2]int64{0, 1}), 0)
	wantList(t, "LongestPath of greater points", path, code, []int64{3, 5, 4}, impl.ErrNone)
	cycle, code := impl.FirstCycle(withOnly(6, [2]int64{0, 5}, [2]int64{5, 1}, [2]int64{1, 4}, [2]int64{4, 0}), 0, 4)
	wantList(t, "FirstCycle", cycle, code, []int64{0, 4, 1, 5}, impl.ErrNone)
	cycle, code = impl.FirstCycle(withOnly(7, [2]int64{4, 5}, [2]int64{5, 6}, [2]int64{6, 4}, [2]int64{1, 3}, [2]int64{3, 2}, [2]int64{2, 1}), 0, 3)
	wantList(t, "FirstCycle of two", cycle, code, []int64{1, 2, 3}, impl.ErrNone)
	centre, rays, code := impl.GreatestStar(withOnly(6, [2]int64{5, 4}, [2]int64{5, 0}, [2]int64{3, 0}, [2]int64{3, 1}), 0)
	wantNumber(t, "GreatestStar", centre, code, 0, impl.ErrNone)
	wantNumber(t, "GreatestStar", rays, code, 2, impl.ErrNone)
	// The pair 0 1 alone would leave one edge less than the pairs 0 4 and 1 2.
	matching, code := impl.GreatestMatching(withOnly(5, [2]int64{0, 1}, [2]int64{0, 4}, [2]int64{1, 2}), 0)
	wantPairs(t, "GreatestMatching", matching, code, [][]int64{{0, 4}, {1, 2}}, impl.ErrNone)
	matching, code = impl.GreatestMatching(withOnly(5, [2]int64{0, 3}, [2]int64{2, 3}, [2]int64{1, 3}), 0)
	wantPairs(t, "GreatestMatching of a star", matching, code, [][]int64{{0, 3}}, impl.ErrNone)
	double, points, code := impl.GreatestDouble(withOnly(5, [2]int64{1, 4}, [2]int64{2, 4}, [2]int64{0, 4}, [2]int64{3, 4}), 0)
	wantCounted(t, "GreatestDouble", double, points, code, []int64{0, 1}, 1)
	// Lexicographically 0 3 comes before 1 2, although its edge has the greater number.
	double, points, code = impl.GreatestDouble(withOnly(6, [2]int64{1, 4}, [2]int64{2, 4}, [2]int64{0, 5}, [2]int64{3, 5}), 0)
	wantCounted(t, "GreatestDouble", double, points, code, []int64{0, 3}, 1)
	book, pages, code := impl.GreatestBook(withOnly(6, [2]int64{1, 2}, [2]int64{0, 3}), 0)
	wantCounted(t, "GreatestBook of no page", book, pages, code, []int64{0, 3}, 0)
	book, pages, code = impl.GreatestBook(withOnly(7, [2]int64{0, 1}, [2]int64{2, 3}, [2]int64{2, 6}, [2]int64{3, 6}, [2]int64{0, 5}, [2]int64{1, 4}), 0)
	wantCounted(t, "GreatestBook", book, pages, code, []int64{2, 3}, 1)
	components, code := impl.ComponentsOf(withOnly(6, [2]int64{1, 5}, [2]int64{0, 4}, [2]int64{4, 3}), 0)
	wantPairs(t, "ComponentsOf", components, code, [][]int64{{0, 3, 4}, {1, 5}, {2}}, impl.ErrNone)
	sides, code := impl.SidesOf(withOnly(6, [2]int64{1, 5}, [2]int64{0, 4}, [2]int64{4, 3}), 0)
	wantList(t, "SidesOf", sides, code, []int64{0, 0, 0, 0, 1, 1}, impl.ErrNone)
	sides, code = impl.SidesOf(inGroups(2, 3, 2, 1), 1)
	wantList(t, "SidesOf with a triangle behind", sides, code, nil, impl.ErrNotFound)
}

// No cycle of an odd number of points is where there are two sides, and the other way round.
func TestL04TwoSidesAndOddCycles(t *testing.T) {
	everyPatternCase(t, func(x impl.Colouring) {
		if x.Points > impl.MaxPattern {
			return
		}
		for c := range x.Colours {
			lengths, _ := impl.CycleLengths(x, c)
			isOdd := slices.ContainsFunc(lengths, func(m int64) bool { return m%2 == 1 })
			_, code := impl.SidesOf(x, c)
			if isOdd != (code == impl.ErrNotFound) {
				t.Errorf("SidesOf(%v, %d) returns %d, but there are cycles of %v points", x, c, code, lengths)
			}
		}
	})
}

// Without a memory for sets these would take ten million steps each: nearly all paths lead to a
// point too few.
func TestL04MostPaths(t *testing.T) {
	for range 50 {
		for last := range int64(11) {
			order := append(upTo(11)[:last:last], append(upTo(11)[last+1:], last)...)
			x, _ := impl.RenumberPoints(inGroups(10, 1), order)
			path, code := impl.LongestPath(x, 1)
			want := slices.DeleteFunc(upTo(11), func(p int64) bool { return p == last })
			wantList(t, "LongestPath", path, code, want, impl.ErrNone)
			cycle, code := impl.FirstCycle(x, 1, 11)
			wantList(t, "FirstCycle", cycle, code, nil, impl.ErrNotFound)
			lengths, code := impl.CycleLengths(x, 1)
			wantList(t, "CycleLengths", lengths, code, []int64{3, 4, 5, 6, 7, 8, 9, 10}, impl.ErrNone)
			avoids, code := impl.AvoidsPattern(x, 1, ofPath, 11)
			wantBool(t, "AvoidsPattern", avoids, code, true, impl.ErrNone)
			avoids, code = impl.AvoidsPattern(x, 1, ofCycle, 17)
			wantBool(t, "AvoidsPattern", avoids, code, true, impl.ErrNone)
		}
	}
}

// Without a memory for sets these would take a hundred million steps each.
func TestL04MostMatchings(t *testing.T) {
	for range 20 {
		matching, code := impl.GreatestMatching(oneColour(17, 1, 0), 0)
		wantPairs(t, "GreatestMatching", matching, code, neighbouringPairs(17), impl.ErrNone)
		avoids, code := impl.AvoidsPattern(oneColour(17, 1, 0), 0, ofMatching, 9)
		wantBool(t, "AvoidsPattern", avoids, code, true, impl.ErrNone)
		matching, code = impl.GreatestMatching(inGroups(8, 9), 0)
		var want [][]int64
		for i := range int64(8) {
			want = append(want, []int64{i, i + 8})
		}
		wantPairs(t, "GreatestMatching", matching, code, want, impl.ErrNone)
	}
}

// patternCalls returns calls of all functions with one colour, each of which returns its code and
// whether all its other results are zero values; the last ones are limited.
func patternCalls(m int64) (map[string]func(impl.Colouring, int64) (int64, bool), map[string]func(impl.Colouring, int64) (int64, bool)) {
	free := map[string]func(impl.Colouring, int64) (int64, bool){
		"GreatestStar": func(x impl.Colouring, c int64) (int64, bool) {
			centre, rays, code := impl.GreatestStar(x, c)
			return code, centre == 0 && rays == 0
		},
		"GreatestMatching": func(x impl.Colouring, c int64) (int64, bool) {
			matching, code := impl.GreatestMatching(x, c)
			return code, len(matching) == 0
		},
		"GreatestDouble": func(x impl.Colouring, c int64) (int64, bool) {
			double, points, code := impl.GreatestDouble(x, c)
			return code, len(double) == 0 && points == 0
		},
		"GreatestBook": func(x impl.Colouring, c int64) (int64, bool) {
			book, pages, code := impl.GreatestBook(x, c)
			return code, len(book) == 0 && pages == 0
		},
		"ComponentsOf": func(x impl.Colouring, c int64) (int64, bool) {
			components, code := impl.ComponentsOf(x, c)
			return code, len(components) == 0
		},
		"SidesOf": func(x impl.Colouring, c int64) (int64, bool) {
			sides, code := impl.SidesOf(x, c)
			return code, len(sides) == 0
		},
	}
	limited := map[string]func(impl.Colouring, int64) (int64, bool){
		"LongestPath": func(x impl.Colouring, c int64) (int64, bool) {
			path, code := impl.LongestPath(x, c)
			return code, len(path) == 0
		},
		"CycleLengths": func(x impl.Colouring, c int64) (int64, bool) {
			lengths, code := impl.CycleLengths(x, c)
			return code, len(lengths) == 0
		},
		"FirstCycle": func(x impl.Colouring, c int64) (int64, bool) {
			cycle, code := impl.FirstCycle(x, c, m)
			return code, len(cycle) == 0
		},
	}
	for kind, name := range []string{"path", "cycle", "star", "matching", "double", "book"} {
		calls := free
		if kind <= ofCycle {
			calls = limited
		}
		calls["AvoidsPattern of a "+name] = func(x impl.Colouring, c int64) (int64, bool) {
			avoids, code := impl.AvoidsPattern(x, c, int64(kind), m)
			return code, !avoids
		}
	}
	return free, limited
}

// wantError checks that each call has one error, and zero values beside it.
func wantError(t *testing.T, calls map[string]func(impl.Colouring, int64) (int64, bool), x impl.Colouring, c int64, want int64) {
	t.Helper()
	for name, call := range calls {
		if code, isZero := call(x, c); code != want || !isZero {
			t.Errorf("%s with %d points and the colour %d returns %d, not %d, zero values: %v", name, x.Points, c, code, want, isZero)
		}
	}
}

// With no colouring, ErrInvalid comes whatever the other arguments are.
func TestL04NoColouring(t *testing.T) {
	for what, x := range wrongColourings() {
		for _, c := range []int64{0, 1, -1, 4, 99, math.MinInt64, math.MaxInt64} {
			for _, m := range []int64{3, 1, 0, -1, 17, 18, math.MinInt64, math.MaxInt64} {
				free, limited := patternCalls(m)
				wantError(t, free, x, c, impl.ErrInvalid)
				wantError(t, limited, x, c, impl.ErrInvalid)
			}
			for _, kind := range []int64{-1, 6, math.MinInt64, math.MaxInt64} {
				avoids, code := impl.AvoidsPattern(x, c, kind, 3)
				wantBool(t, "AvoidsPattern: "+what, avoids, code, false, impl.ErrInvalid)
			}
		}
		connected, code := impl.ConnectedColours(x)
		wantList(t, "ConnectedColours: "+what, connected, code, nil, impl.ErrInvalid)
	}
}

// A wrong colour is an error before the limit, and before what is not found.
func TestL04WrongColours(t *testing.T) {
	for n := int64(1); n <= impl.MaxPoints; n++ {
		for k := int64(1); k <= impl.MaxColours; k++ {
			for _, c := range []int64{-1, k, k + 1, 255, 256, 1 << 32, -1 << 32, math.MinInt64, math.MaxInt64} {
				for _, m := range []int64{3, 17, 1, 0} {
					free, limited := patternCalls(m)
					wantError(t, free, oneColour(n, k, 0), c, impl.ErrRange)
					wantError(t, limited, oneColour(n, k, 0), c, impl.ErrRange)
				}
			}
		}
	}
}

// A wrong number of points is an error before the limit, and before what is not found.
func TestL04WrongNumbers(t *testing.T) {
	for n := int64(1); n <= impl.MaxPoints; n++ {
		x := oneColour(n, 2, 1)
		for c := range int64(2) {
			for _, m := range []int64{2, 1, 0, -1, -3, 18, 19, 1<<32 + 3, math.MinInt64, math.MaxInt64} {
				cycle, code := impl.FirstCycle(x, c, m)
				wantList(t, "FirstCycle of a wrong number", cycle, code, nil, impl.ErrRange)
			}
			for _, m := range []int64{0, -1, -3, 18, 19, 1<<32 + 3, math.MinInt64, math.MaxInt64} {
				for kind := int64(-1); kind <= kinds; kind++ {
					avoids, code := impl.AvoidsPattern(x, c, kind, m)
					wantBool(t, "AvoidsPattern of a wrong number", avoids, code, false, impl.ErrRange)
				}
			}
			for _, kind := range []int64{-1, 6, 7, -6, 1 << 32, 1<<32 + 1, math.MinInt64, math.MaxInt64} {
				for m := int64(0); m <= impl.MaxPoints+1; m++ {
					avoids, code := impl.AvoidsPattern(x, c, kind, m)
					wantBool(t, "AvoidsPattern of a wrong kind", avoids, code, false, impl.ErrRange)
				}
			}
		}
	}
}

// The limit is told for paths and cycles alone, for all numbers of points that are right, and comes
// before what is not found.
func TestL04Limit(t *testing.T) {
	for n := int64(1); n <= impl.MaxPoints; n++ {
		x := withOnly(n, [2]int64{0, 1}, [2]int64{0, 2}, [2]int64{1, 2})
		for m := int64(3); m <= impl.MaxPoints; m++ {
			free, limited := patternCalls(m)
			for name, call := range free {
				if code, _ := call(x, 1); code == impl.ErrLimit {
					t.Errorf("%s of %d points returns ErrLimit", name, n)
				}
			}
			if n > 11 {
				wantError(t, limited, x, 0, impl.ErrLimit)
				wantError(t, limited, x, 1, impl.ErrLimit)
				continue
			}
			for name, call := range limited {
				if code, _ := call(x, 0); code == impl.ErrLimit {
					t.Errorf("%s of %d points returns ErrLimit", name, n)
				}
			}
		}
		for kind := int64(ofPath); kind <= ofCycle && n > 11; kind++ {
			for m := int64(1); m <= 2; m++ {
				avoids, code := impl.AvoidsPattern(x, 0, kind, m)
				wantBool(t, "AvoidsPattern of many points", avoids, code, false, impl.ErrLimit)
			}
		}
	}
}

func TestL04AvoidsPattern(t *testing.T) {
	x := named(t, "pentagon")
	for kind, greatest := range []int64{5, -1, 2, 2, 1, 0} {
		for m := int64(1); m <= impl.MaxPoints && kind != ofCycle; m++ {
			avoids, code := impl.AvoidsPattern(x, 0, int64(kind), m)
			wantBool(t, "AvoidsPattern of the pentagon", avoids, code, m > greatest, impl.ErrNone)
		}
	}
	for m := int64(1); m <= impl.MaxPoints; m++ {
		avoids, code := impl.AvoidsPattern(x, 0, ofCycle, m)
		wantBool(t, "AvoidsPattern of the pentagon and cycles", avoids, code, m != 5, impl.ErrNone)
		avoids, code = impl.AvoidsPattern(oneColour(11, 2, 1), 1, ofCycle, m)
		wantBool(t, "AvoidsPattern of one colour and cycles", avoids, code, m < 3 || m > 11, impl.ErrNone)
		avoids, code = impl.AvoidsPattern(oneColour(17, 2, 1), 1, ofStar, m)
		wantBool(t, "AvoidsPattern of one colour and stars", avoids, code, m > 16, impl.ErrNone)
		avoids, code = impl.AvoidsPattern(oneColour(17, 2, 1), 1, ofMatching, m)
		wantBool(t, "AvoidsPattern of one colour and matchings", avoids, code, m > 8, impl.ErrNone)
		avoids, code = impl.AvoidsPattern(inGroups(2, 15), 0, ofDouble, m)
		wantBool(t, "AvoidsPattern of two groups and doubles", avoids, code, m > 15, impl.ErrNone)
		avoids, code = impl.AvoidsPattern(inGroups(2, 15), 0, ofBook, m)
		wantBool(t, "AvoidsPattern of two groups and books", avoids, code, true, impl.ErrNone)
		avoids, code = impl.AvoidsPattern(inGroups(2, 15), 1, ofBook, m)
		wantBool(t, "AvoidsPattern of two groups and books", avoids, code, m > 13, impl.ErrNone)
	}
}

// Writing to a result, or behind one of its lists, must not show in another one.
func TestL04ResultsAreNew(t *testing.T) {
	x := inGroups(3, 4, 4)
	for what, get := range map[string]func() [][]int64{
		"LongestPath":      func() [][]int64 { list, _ := impl.LongestPath(x, 0); return [][]int64{list} },
		"CycleLengths":     func() [][]int64 { list, _ := impl.CycleLengths(x, 0); return [][]int64{list} },
		"FirstCycle":       func() [][]int64 { list, _ := impl.FirstCycle(x, 0, 7); return [][]int64{list} },
		"GreatestMatching": func() [][]int64 { lists, _ := impl.GreatestMatching(x, 1); return lists },
		"GreatestDouble":   func() [][]int64 { list, _, _ := impl.GreatestDouble(x, 0); return [][]int64{list} },
		"GreatestBook":     func() [][]int64 { list, _, _ := impl.GreatestBook(x, 1); return [][]int64{list} },
		"ComponentsOf":     func() [][]int64 { lists, _ := impl.ComponentsOf(x, 1); return lists },
		"ConnectedColours": func() [][]int64 { list, _ := impl.ConnectedColours(x); return [][]int64{list} },
		"SidesOf":          func() [][]int64 { list, _ := impl.SidesOf(inGroups(3, 4), 0); return [][]int64{list} },
	} {
		first := get()
		var kept [][]int64
		for _, list := range first {
			kept = append(kept, slices.Clone(list))
		}
		for i, list := range first {
			full := list[:cap(list)]
			for place := range full {
				full[place] = -77
			}
			if !sameLists(first[i+1:], kept[i+1:]) {
				t.Errorf("%s: the lists of a result share memory", what)
			}
		}
		if second := get(); len(kept[0]) == 0 || !sameLists(second, kept) {
			t.Errorf("%s: a result is changed: %v and %v", what, second, kept)
		}
	}
}
