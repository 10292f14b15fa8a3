package tests

import (
	"math"
	"math/bits"
	"slices"
	"testing"

	"loop.example/g01362/impl"
)

// pointsOf returns the points of a set of bits, ascending.
func pointsOf(set int) []int64 {
	var points []int64
	for p := range int64(bits.Len(uint(set))) {
		if set>>p&1 == 1 {
			points = append(points, p)
		}
	}
	return points
}

// cliquesByDefinition returns all cliques of a colour in order, that of no point first, from a look
// at every set of points.
func cliquesByDefinition(x impl.Colouring, c int64) [][]int64 {
	isClique := make([]bool, 1<<x.Points)
	isClique[0] = true
	found := [][]int64{nil}
	for set := 1; set < len(isClique); set++ {
		last := bits.Len(uint(set)) - 1
		right := isClique[set&^(1<<last)]
		for p := 0; right && p < last; p++ {
			right = set>>p&1 == 0 || colourIn(x, int64(p), int64(last)) == c
		}
		isClique[set] = right
		if right {
			found = append(found, pointsOf(set))
		}
	}
	slices.SortFunc(found, slices.Compare[[]int64])
	return found
}

// ofSize returns the lists with a number of elements.
func ofSize(lists [][]int64, m int64) [][]int64 {
	var found [][]int64
	for _, list := range lists {
		if int64(len(list)) == m {
			found = append(found, list)
		}
	}
	return found
}

// withPoint returns the lists that have a number.
func withPoint(lists [][]int64, p int64) [][]int64 {
	var found [][]int64
	for _, list := range lists {
		if slices.Contains(list, p) {
			found = append(found, list)
		}
	}
	return found
}

// setOf returns a list of points as bits.
func setOf(points []int64) uint64 {
	set := uint64(0)
	for _, p := range points {
		set |= 1 << p
	}
	return set
}

// fullOf returns the cliques that no other one has all points of.
func fullOf(cliques [][]int64, n int64) [][]int64 {
	known := map[uint64]bool{}
	for _, clique := range cliques {
		known[setOf(clique)] = true
	}
	var full [][]int64
	for _, clique := range cliques {
		set, more := setOf(clique), false
		for p := range n {
			more = more || set>>p&1 == 0 && known[set|1<<p]
		}
		if !more {
			full = append(full, clique)
		}
	}
	return full
}

// sameLists compares lists of lists.
func sameLists(a [][]int64, b [][]int64) bool {
	return slices.EqualFunc(a, b, slices.Equal[[]int64])
}

// wantLists checks a list of lists, of which there may be too many.
func wantLists(t *testing.T, what string, lists [][]int64, code int64, want [][]int64) {
	t.Helper()
	wantCode := int64(impl.ErrNone)
	if len(want) > impl.MaxListed {
		want, wantCode = nil, impl.ErrLimit
	}
	if code != wantCode || !sameLists(lists, want) {
		t.Errorf("%s returns %v and %d, not %v and %d", what, lists, code, want, wantCode)
	}
}

// wantNumber checks a number.
func wantNumber(t *testing.T, what string, number int64, code int64, want int64, wantCode int64) {
	t.Helper()
	if code != wantCode || number != want {
		t.Errorf("%s returns %d and %d, not %d and %d", what, number, code, want, wantCode)
	}
}

// wantBool checks a bool.
func wantBool(t *testing.T, what string, is bool, code int64, want bool, wantCode int64) {
	t.Helper()
	if code != wantCode || is != want {
		t.Errorf("%s returns %v and %d, not %v and %d", what, is, code, want, wantCode)
	}
}

// inGroups returns a colouring of two colours with groups of points; the edges between points of
// one group have the colour 1, all others 0. Each full clique of the colour 0 has a point of each
// group.
func inGroups(sizes ...int64) impl.Colouring {
	var groups []int
	for group, size := range sizes {
		for range size {
			groups = append(groups, group)
		}
	}
	x := impl.Colouring{Points: int64(len(groups)), Colours: 2}
	for j := range groups {
		for i := range j {
			if groups[i] == groups[j] {
				x.Edges[j*(j-1)/2+i] = 1
			}
		}
	}
	return x
}

// oneColour returns the colouring of n points, and k colours, with the colour c alone.
func oneColour(n int64, k int64, c byte) impl.Colouring {
	x := impl.Colouring{Points: n, Colours: k}
	for e := range n * (n - 1) / 2 {
		x.Edges[e] = c
	}
	return x
}

// everyCliqueCase calls a function with colourings of all shapes and with some of many cliques.
func everyCliqueCase(use func(x impl.Colouring)) {
	everyShape(use)
	for _, x := range []impl.Colouring{
		inGroups(2, 2, 2, 2, 2, 2, 2, 2, 1), inGroups(3, 3, 3, 3, 3, 2), inGroups(16, 1), inGroups(9, 8), inGroups(5, 5, 2, 2, 2),
		oneColour(17, 4, 3), oneColour(16, 2, 1), oneColour(1, 4, 0), oneColour(2, 4, 2),
	} {
		use(x)
	}
}

func TestL02MaxListed(t *testing.T) {
	if impl.MaxListed != 200 {
		t.Errorf("MaxListed is %d", impl.MaxListed)
	}
}

func TestL02IsClique(t *testing.T) {
	for n := int64(1); n <= 7; n++ {
		for k := int64(1); k <= impl.MaxColours; k++ {
			x := mixed(n, k, 5)
			for c := range k {
				want := cliquesByDefinition(x, c)
				for set := range 1 << n {
					points := pointsOf(set)
					is, code := impl.IsClique(x, c, points)
					wanted := slices.ContainsFunc(want, func(clique []int64) bool { return slices.Equal(clique, points) })
					wantBool(t, "IsClique", is, code, wanted, impl.ErrNone)
				}
			}
		}
	}
	is, code := impl.IsClique(oneColour(17, 4, 3), 3, upTo(17))
	wantBool(t, "IsClique of all points", is, code, true, impl.ErrNone)
	is, code = impl.IsClique(oneColour(17, 4, 3), 2, upTo(17))
	wantBool(t, "IsClique of all points, no edge", is, code, false, impl.ErrNone)
	is, code = impl.IsClique(oneColour(17, 4, 3), 2, nil)
	wantBool(t, "IsClique of no point", is, code, true, impl.ErrNone)
	is, code = impl.IsClique(oneColour(17, 4, 3), 2, []int64{16})
	wantBool(t, "IsClique of one point", is, code, true, impl.ErrNone)
	late := oneColour(17, 2, 0)
	late.Edges[135] = 1
	is, code = impl.IsClique(late, 0, upTo(17))
	wantBool(t, "IsClique without the last edge", is, code, false, impl.ErrNone)
	is, code = impl.IsClique(late, 1, []int64{15, 16})
	wantBool(t, "IsClique of the last edge", is, code, true, impl.ErrNone)
}

func TestL02IsCliqueErrors(t *testing.T) {
	x := oneColour(5, 2, 0)
	for _, c := range []int64{-1, 2, 4, math.MinInt64, math.MaxInt64} {
		is, code := impl.IsClique(x, c, []int64{0, 1})
		wantBool(t, "IsClique of a wrong colour", is, code, false, impl.ErrRange)
	}
	for _, points := range [][]int64{
		{5}, {-1}, {0, 5}, {-1, 0}, {1, 0}, {0, 0}, {0, 1, 1}, {0, 2, 1}, {0, 1, 2, 3, 4, 5}, {math.MaxInt64}, {math.MinInt64, 0}, {4, 4},
		slices.Repeat([]int64{0}, 100),
	} {
		is, code := impl.IsClique(x, 0, points)
		wantBool(t, "IsClique of a wrong set", is, code, false, impl.ErrRange)
	}
}

// everyClique returns the cliques of each colour.
func everyClique(x impl.Colouring) [][][]int64 {
	var cliques [][][]int64
	for c := range x.Colours {
		cliques = append(cliques, cliquesByDefinition(x, c))
	}
	return cliques
}

func TestL02AgainstTheDefinition(t *testing.T) {
	everyCliqueCase(func(x impl.Colouring) {
		numbers, code := impl.CliqueNumbers(x)
		if code != impl.ErrNone || int64(len(numbers)) != x.Colours {
			t.Fatalf("CliqueNumbers(%v) = %v, %d", x, numbers, code)
		}
		triangles, code := impl.CountTriangles(x)
		if code != impl.ErrNone || int64(len(triangles)) != x.Colours {
			t.Fatalf("CountTriangles(%v) = %v, %d", x, triangles, code)
		}
		every := everyClique(x)
		for c, cliques := range every {
			most := int64(0)
			for _, clique := range cliques {
				most = max(most, int64(len(clique)))
			}
			wantNumber(t, "CliqueNumbers", numbers[c], code, most, impl.ErrNone)
			wantNumber(t, "CountTriangles", triangles[c], code, int64(len(ofSize(cliques, 3))), impl.ErrNone)
			greatest, code := impl.GreatestClique(x, int64(c))
			wantList(t, "GreatestClique", greatest, code, ofSize(cliques, most)[0], impl.ErrNone)
			full, code := impl.FullCliques(x, int64(c))
			wantLists(t, "FullCliques", full, code, fullOf(cliques, x.Points))
			for m := int64(0); m <= impl.MaxPoints; m++ {
				checkOneSize(t, x, int64(c), m, ofSize(cliques, m))
			}
		}
		for seed := range uint64(10) {
			sizes := make([]int64, x.Colours)
			for c := range sizes {
				sizes[c] = 1 + mixedList(5, seed*31+uint64(c))[0]
			}
			checkSizes(t, x, sizes, every)
			checkSizes(t, x, sameNumber(x.Colours, int64(seed)+1), every)
		}
		checkSizes(t, x, sameNumber(x.Colours, impl.MaxPoints), every)
	})
}

// checkOneSize checks the functions that are about the cliques of m points of a colour.
func checkOneSize(t *testing.T, x impl.Colouring, c int64, m int64, want [][]int64) {
	t.Helper()
	count, code := impl.CountCliques(x, c, m)
	wantNumber(t, "CountCliques", count, code, int64(len(want)), impl.ErrNone)
	if m == 0 {
		return
	}
	list, code := impl.CliqueList(x, c, m)
	wantLists(t, "CliqueList", list, code, want)
	for p := range x.Points {
		at, code := impl.CliquesAt(x, c, p, m)
		wantNumber(t, "CliquesAt", at, code, int64(len(withPoint(want, p))), impl.ErrNone)
	}
}

// checkSizes compares what is told of sizes with the cliques of each colour.
func checkSizes(t *testing.T, x impl.Colouring, sizes []int64, cliques [][][]int64) {
	t.Helper()
	colour, clique, wantCode := int64(0), []int64(nil), int64(impl.ErrNotFound)
	for c := x.Colours - 1; c >= 0; c-- {
		if found := ofSize(cliques[c], sizes[c]); len(found) > 0 {
			colour, clique, wantCode = c, found[0], impl.ErrNone
		}
	}
	avoids, code := impl.AvoidsSizes(x, sizes)
	wantBool(t, "AvoidsSizes", avoids, code, wantCode == impl.ErrNotFound, impl.ErrNone)
	c, first, code := impl.FirstOfSizes(x, sizes)
	wantNumber(t, "FirstOfSizes", c, code, colour, wantCode)
	wantList(t, "FirstOfSizes", first, code, clique, wantCode)
}

// Promise 2: greatest cliques are cliques, of as many points as the clique number tells.
func TestL02GreatestCliquesAreCliques(t *testing.T) {
	everyCliqueCase(func(x impl.Colouring) {
		numbers, _ := impl.CliqueNumbers(x)
		for c := range x.Colours {
			greatest, code := impl.GreatestClique(x, c)
			if code != impl.ErrNone || len(greatest) == 0 || int64(len(greatest)) != numbers[c] {
				t.Errorf("GreatestClique(%v, %d) = %v, %d", x, c, greatest, code)
			}
			is, code := impl.IsClique(x, c, greatest)
			wantBool(t, "IsClique of a greatest clique", is, code, true, impl.ErrNone)
			more, code := impl.CountCliques(x, c, min(numbers[c]+1, impl.MaxPoints))
			if numbers[c] < impl.MaxPoints {
				wantNumber(t, "CountCliques of more points", more, code, 0, impl.ErrNone)
			}
		}
	})
}

// Promise 2: triangles with two colours are at least the least number.
func TestL02TrianglesAreAtLeastTheLeastNumber(t *testing.T) {
	for n := int64(1); n <= impl.MaxPoints; n++ {
		least, code := impl.LeastTriangles(n)
		if code != impl.ErrNone {
			t.Fatalf("LeastTriangles(%d) returns the code %d", n, code)
		}
		for seed := range uint64(50) {
			counts, code := impl.CountTriangles(mixed(n, 2, seed))
			if code != impl.ErrNone || len(counts) != 2 || counts[0]+counts[1] < least {
				t.Errorf("CountTriangles of %d points = %v, %d; the least number is %d", n, counts, code, least)
			}
		}
	}
}

// Up to six points, some colouring has just the least number.
func TestL02TheLeastNumberIsReached(t *testing.T) {
	for n := int64(1); n <= 6; n++ {
		least, _ := impl.LeastTriangles(n)
		fewest := int64(math.MaxInt64)
		used := n * (n - 1) / 2
		for colours := range 1 << used {
			x := impl.Colouring{Points: n, Colours: 2}
			for e := range used {
				x.Edges[e] = byte(colours >> e & 1)
			}
			counts, _ := impl.CountTriangles(x)
			fewest = min(fewest, counts[0]+counts[1])
		}
		if fewest != least {
			t.Errorf("%d points have %d triangles, the least number is %d", n, fewest, least)
		}
	}
}

// The guarantee of the chapter: lists have as many as are counted.
func TestL02ListsHaveAsManyAsAreCounted(t *testing.T) {
	everyCliqueCase(func(x impl.Colouring) {
		for c := range x.Colours {
			for m := int64(1); m <= impl.MaxPoints; m++ {
				count, _ := impl.CountCliques(x, c, m)
				list, code := impl.CliqueList(x, c, m)
				if count > impl.MaxListed {
					wantNumber(t, "CliqueList", int64(len(list)), code, 0, impl.ErrLimit)
				} else {
					wantNumber(t, "CliqueList", int64(len(list)), code, count, impl.ErrNone)
				}
				sum := int64(0)
				for p := range x.Points {
					at, _ := impl.CliquesAt(x, c, p, m)
					sum += at
				}
				wantNumber(t, "CliquesAt, all points", sum, impl.ErrNone, m*count, impl.ErrNone)
			}
		}
	})
}

// The guarantee of the chapter: colourings that avoid sizes have smaller cliques.
func TestL02AvoidingColouringsHaveSmallerCliques(t *testing.T) {
	everyCliqueCase(func(x impl.Colouring) {
		numbers, _ := impl.CliqueNumbers(x)
		for seed := range uint64(20) {
			sizes := make([]int64, x.Colours)
			smaller := true
			for c := range sizes {
				sizes[c] = min(1+mixedList(9, seed*31+uint64(c))[0], impl.MaxPoints)
				if seed%2 == 0 {
					sizes[c] = min(numbers[c]+1, impl.MaxPoints)
				}
				smaller = smaller && numbers[c] < sizes[c]
			}
			avoids, code := impl.AvoidsSizes(x, sizes)
			wantBool(t, "AvoidsSizes", avoids, code, smaller, impl.ErrNone)
			c, first, code := impl.FirstOfSizes(x, sizes)
			if smaller {
				wantNumber(t, "FirstOfSizes", c, code, 0, impl.ErrNotFound)
				wantList(t, "FirstOfSizes", first, code, nil, impl.ErrNotFound)
				continue
			}
			is, _ := impl.IsClique(x, c, first)
			if code != impl.ErrNone || !is || int64(len(first)) != sizes[c] {
				t.Errorf("FirstOfSizes(%v, %v) = %d, %v, %d", x, sizes, c, first, code)
			}
			for lesser := range c {
				if numbers[lesser] >= sizes[lesser] {
					t.Errorf("FirstOfSizes(%v, %v) = %d, but %d is less", x, sizes, c, lesser)
				}
			}
		}
	})
}

func TestL02NamedColourings(t *testing.T) {
	numbers := map[string][]int64{
		"pentagon": {2, 2}, "eight": {2, 3}, "thirteen": {2, 4}, "seventeen": {3, 3}, "sixteen": {2, 2, 2},
	}
	for name, want := range numbers {
		x := named(t, name)
		got, code := impl.CliqueNumbers(x)
		wantList(t, "CliqueNumbers of "+name, got, code, want, impl.ErrNone)
		sizes := slices.Clone(want)
		for c := range sizes {
			sizes[c]++
		}
		avoids, code := impl.AvoidsSizes(x, sizes)
		wantBool(t, "AvoidsSizes of "+name, avoids, code, true, impl.ErrNone)
		for c := range sizes {
			sizes[c]--
			avoids, code := impl.AvoidsSizes(x, sizes)
			wantBool(t, "AvoidsSizes of "+name, avoids, code, false, impl.ErrNone)
			sizes[c]++
		}
	}
	greatest, code := impl.GreatestClique(named(t, "eight"), 1)
	wantList(t, "GreatestClique of eight", greatest, code, []int64{0, 2, 5}, impl.ErrNone)
	triangles, code := impl.CountTriangles(named(t, "eight"))
	wantList(t, "CountTriangles of eight", triangles, code, []int64{0, 8}, impl.ErrNone)
}

func TestL02OnePoint(t *testing.T) {
	x := oneColour(1, 4, 0)
	numbers, code := impl.CliqueNumbers(x)
	wantList(t, "CliqueNumbers", numbers, code, []int64{1, 1, 1, 1}, impl.ErrNone)
	triangles, code := impl.CountTriangles(x)
	wantList(t, "CountTriangles", triangles, code, []int64{0, 0, 0, 0}, impl.ErrNone)
	angles, code := impl.AngleNumber(x)
	wantNumber(t, "AngleNumber", angles, code, 0, impl.ErrNone)
	for c := range int64(4) {
		greatest, code := impl.GreatestClique(x, c)
		wantList(t, "GreatestClique", greatest, code, []int64{0}, impl.ErrNone)
		full, code := impl.FullCliques(x, c)
		wantLists(t, "FullCliques", full, code, [][]int64{{0}})
	}
	avoids, code := impl.AvoidsSizes(x, []int64{2, 2, 2, 2})
	wantBool(t, "AvoidsSizes", avoids, code, true, impl.ErrNone)
	c, first, code := impl.FirstOfSizes(x, []int64{2, 2, 1, 1})
	wantNumber(t, "FirstOfSizes", c, code, 2, impl.ErrNone)
	wantList(t, "FirstOfSizes", first, code, []int64{0}, impl.ErrNone)
}

// MaxPoints points of one colour have the most cliques: every set of points is one.
func TestL02MostCliques(t *testing.T) {
	x := oneColour(17, 4, 3)
	binomial := int64(1)
	for m := int64(0); m <= 17; m++ {
		count, code := impl.CountCliques(x, 3, m)
		wantNumber(t, "CountCliques", count, code, binomial, impl.ErrNone)
		if m > 0 {
			at, code := impl.CliquesAt(x, 3, 16, m)
			wantNumber(t, "CliquesAt", at, code, binomial*m/17, impl.ErrNone)
		}
		binomial = binomial * (17 - m) / (m + 1)
	}
	greatest, code := impl.GreatestClique(x, 3)
	wantList(t, "GreatestClique", greatest, code, upTo(17), impl.ErrNone)
	full, code := impl.FullCliques(x, 3)
	wantLists(t, "FullCliques", full, code, [][]int64{upTo(17)})
	triangles, code := impl.CountTriangles(x)
	wantList(t, "CountTriangles", triangles, code, []int64{0, 0, 0, 680}, impl.ErrNone)
	avoids, code := impl.AvoidsSizes(x, []int64{2, 2, 2, 17})
	wantBool(t, "AvoidsSizes", avoids, code, false, impl.ErrNone)
	c, first, code := impl.FirstOfSizes(x, []int64{2, 2, 2, 17})
	wantNumber(t, "FirstOfSizes", c, code, 3, impl.ErrNone)
	wantList(t, "FirstOfSizes", first, code, upTo(17), impl.ErrNone)
	avoids, code = impl.AvoidsSizes(oneColour(16, 1, 0), []int64{17})
	wantBool(t, "AvoidsSizes of 16 points", avoids, code, true, impl.ErrNone)
}

// withTriangles returns a colouring with ten points of the colour 0, and for each degree a point
// more that has the colour 0 with so many of them.
func withTriangles(t *testing.T, degrees ...int64) impl.Colouring {
	t.Helper()
	x := oneColour(10, 2, 0)
	for _, degree := range degrees {
		colours := append(sameNumber(degree, 0), sameNumber(x.Points-degree, 1)...)
		y, code := impl.PutPoint(x, colours)
		if code != impl.ErrNone {
			t.Fatalf("PutPoint returns the code %d", code)
		}
		x = y
	}
	return x
}

func TestL02CliqueListAtTheLimit(t *testing.T) {
	list, code := impl.CliqueList(withTriangles(t, 9, 8, 6, 2), 0, 3)
	wantNumber(t, "CliqueList of 200", int64(len(list)), code, 200, impl.ErrNone)
	list, code = impl.CliqueList(withTriangles(t, 9, 8, 6, 2, 2), 0, 3)
	wantNumber(t, "CliqueList of 201", int64(len(list)), code, 0, impl.ErrLimit)
	list, code = impl.CliqueList(inGroups(5, 5, 2, 2, 2), 0, 5)
	wantNumber(t, "CliqueList of 200 with five points", int64(len(list)), code, 200, impl.ErrNone)
	list, code = impl.CliqueList(oneColour(17, 2, 1), 1, 8)
	wantNumber(t, "CliqueList of the most", int64(len(list)), code, 0, impl.ErrLimit)
	list, code = impl.CliqueList(oneColour(17, 2, 1), 1, 2)
	wantNumber(t, "CliqueList of all edges", int64(len(list)), code, 136, impl.ErrNone)
}

func TestL02FullCliquesAtTheLimit(t *testing.T) {
	x := inGroups(5, 5, 2, 2, 2)
	list, code := impl.FullCliques(x, 0)
	wantNumber(t, "FullCliques of 200", int64(len(list)), code, 200, impl.ErrNone)
	alone, _ := impl.PutPoint(x, sameNumber(16, 1))
	list, code = impl.FullCliques(alone, 0)
	wantNumber(t, "FullCliques of 201", int64(len(list)), code, 0, impl.ErrLimit)
	beside, _ := impl.PutPoint(x, sameNumber(16, 0))
	list, code = impl.FullCliques(beside, 0)
	wantNumber(t, "FullCliques of 200 with 17 points", int64(len(list)), code, 200, impl.ErrNone)
	list, code = impl.FullCliques(inGroups(3, 3, 3, 3, 3, 2), 0)
	wantNumber(t, "FullCliques of the most", int64(len(list)), code, 0, impl.ErrLimit)
}

func TestL02Examples(t *testing.T) {
	x := parsed(t, "5,2:0,10,110,0110")
	full, code := impl.FullCliques(x, 0)
	wantLists(t, "FullCliques", full, code, [][]int64{{0, 1}, {0, 4}, {1, 2}, {2, 3}, {3, 4}})
	// The points 0, 1 and 2 are a triangle; 3 is joined to 2 alone, 4 to none.
	x = parsed(t, "5,2:0,00,110,1111")
	full, code = impl.FullCliques(x, 0)
	wantLists(t, "FullCliques", full, code, [][]int64{{0, 1, 2}, {2, 3}, {4}})
	list, code := impl.CliqueList(x, 0, 2)
	wantLists(t, "CliqueList", list, code, [][]int64{{0, 1}, {0, 2}, {1, 2}, {2, 3}})
	list, code = impl.CliqueList(x, 0, 1)
	wantLists(t, "CliqueList", list, code, [][]int64{{0}, {1}, {2}, {3}, {4}})
	list, code = impl.CliqueList(x, 0, 4)
	wantLists(t, "CliqueList", list, code, nil)
	at, code := impl.CliquesAt(x, 0, 2, 2)
	wantNumber(t, "CliquesAt", at, code, 3, impl.ErrNone)
	at, code = impl.CliquesAt(x, 0, 4, 1)
	wantNumber(t, "CliquesAt", at, code, 1, impl.ErrNone)
	at, code = impl.CliquesAt(x, 0, 4, 2)
	wantNumber(t, "CliquesAt", at, code, 0, impl.ErrNone)
	// The first greatest clique is not the one with the least last point.
	greatest, code := impl.GreatestClique(parsed(t, "5,2:1,10,110,0111"), 0)
	wantList(t, "GreatestClique", greatest, code, []int64{0, 4}, impl.ErrNone)
}

func TestL02LeastTriangles(t *testing.T) {
	few := []int64{0, 0, 0, 0, 0, 2, 4, 8, 12, 20, 28, 40, 52, 70, 88, 112, 136}
	for n, want := range few {
		least, code := impl.LeastTriangles(int64(n) + 1)
		wantNumber(t, "LeastTriangles", least, code, want, impl.ErrNone)
	}
	for n := int64(1); n <= 1000; n++ {
		want := n / 2 * (n/2 - 1) * (n/2 - 2) / 3
		switch u := n / 4; n % 4 {
		case 1:
			want = 2 * u * (u - 1) * n / 3
		case 3:
			want = 2 * u * (u + 1) * (4*u - 1) / 3
		}
		least, code := impl.LeastTriangles(n)
		wantNumber(t, "LeastTriangles", least, code, want, impl.ErrNone)
	}
	least, code := impl.LeastTriangles(1000)
	wantNumber(t, "LeastTriangles of 1000", least, code, 41417000, impl.ErrNone)
	for _, n := range []int64{0, -1, 1001, math.MinInt64, math.MaxInt64, 1 << 32} {
		least, code := impl.LeastTriangles(n)
		wantNumber(t, "LeastTriangles out of range", least, code, 0, impl.ErrRange)
	}
}

func TestL02AngleNumber(t *testing.T) {
	everyCliqueCase(func(x impl.Colouring) {
		want := int64(0)
		for p := range x.Points {
			for i := range x.Points {
				for j := range i {
					if p != i && p != j && colourIn(x, p, i) != colourIn(x, p, j) {
						want++
					}
				}
			}
		}
		angles, code := impl.AngleNumber(x)
		wantNumber(t, "AngleNumber", angles, code, want, impl.ErrNone)
		if x.Colours == 2 {
			triangles, _ := impl.CountTriangles(x)
			n := x.Points
			wantNumber(t, "AngleNumber", angles, code, 2*(n*(n-1)*(n-2)/6-triangles[0]-triangles[1]), impl.ErrNone)
		}
	})
	angles, code := impl.AngleNumber(parsed(t, "4,3:0,12,012"))
	wantNumber(t, "AngleNumber of three colours", angles, code, 10, impl.ErrNone)
}

func TestL02SizesErrors(t *testing.T) {
	x := oneColour(5, 2, 0)
	for _, sizes := range [][]int64{
		nil, {3}, {3, 3, 3}, {0, 3}, {3, 0}, {18, 3}, {3, 18}, {-1, 3}, {3, -1}, {math.MaxInt64, 3}, {3, math.MinInt64}, {3, 1 << 32},
		{1, 18}, {1, 1, 1}, {1},
	} {
		avoids, code := impl.AvoidsSizes(x, sizes)
		wantBool(t, "AvoidsSizes", avoids, code, false, impl.ErrRange)
		c, first, code := impl.FirstOfSizes(x, sizes)
		wantNumber(t, "FirstOfSizes", c, code, 0, impl.ErrRange)
		wantList(t, "FirstOfSizes", first, code, nil, impl.ErrRange)
	}
	every := everyClique(x)
	for _, sizes := range [][]int64{{17, 17}, {6, 2}, {1, 1}, {1, 17}, {17, 1}, {5, 1}, {5, 2}, {6, 1}, {2, 17}} {
		checkSizes(t, x, sizes, every)
	}
}

// rangeCase has numbers for a colour, a point and a number of points.
type rangeCase struct{ c, p, m int64 }

func TestL02RangeErrors(t *testing.T) {
	// Many cliques, so that ErrLimit would come if ErrRange did not come first.
	x := oneColour(16, 2, 0)
	for _, c := range []int64{-1, 2, 3, math.MinInt64, math.MaxInt64} {
		list, code := impl.GreatestClique(x, c)
		wantList(t, "GreatestClique", list, code, nil, impl.ErrRange)
		lists, code := impl.FullCliques(inGroups(3, 3, 3, 3, 3), c)
		wantNumber(t, "FullCliques", int64(len(lists)), code, 0, impl.ErrRange)
	}
	for _, a := range []rangeCase{
		{-1, 0, 3}, {2, 0, 3}, {math.MaxInt64, 0, 8}, {math.MinInt64, 0, 8}, {0, 0, -1}, {0, 0, 18}, {0, 0, math.MaxInt64}, {0, 0, math.MinInt64},
	} {
		count, code := impl.CountCliques(x, a.c, a.m)
		wantNumber(t, "CountCliques", count, code, 0, impl.ErrRange)
		lists, code := impl.CliqueList(x, a.c, a.m)
		wantNumber(t, "CliqueList", int64(len(lists)), code, 0, impl.ErrRange)
		at, code := impl.CliquesAt(x, a.c, a.p, a.m)
		wantNumber(t, "CliquesAt", at, code, 0, impl.ErrRange)
	}
	lists, code := impl.CliqueList(x, 0, 0)
	wantNumber(t, "CliqueList of no point", int64(len(lists)), code, 0, impl.ErrRange)
	at, code := impl.CliquesAt(x, 0, 0, 0)
	wantNumber(t, "CliquesAt of no point", at, code, 0, impl.ErrRange)
	for _, p := range []int64{-1, 16, 17, math.MinInt64, math.MaxInt64} {
		at, code := impl.CliquesAt(x, 0, p, 3)
		wantNumber(t, "CliquesAt of a wrong point", at, code, 0, impl.ErrRange)
	}
	at, code = impl.CliquesAt(x, 1, 15, 17)
	wantNumber(t, "CliquesAt of the last point", at, code, 0, impl.ErrNone)
}

// With no colouring, ErrInvalid comes whatever the other arguments are.
func TestL02NoColouring(t *testing.T) {
	for what, x := range wrongColourings() {
		for _, a := range []rangeCase{{0, 0, 1}, {-1, -1, -1}, {math.MaxInt64, math.MaxInt64, math.MaxInt64}, {9, 99, 18}} {
			is, code := impl.IsClique(x, a.c, []int64{a.p})
			wantBool(t, "IsClique: "+what, is, code, false, impl.ErrInvalid)
			list, code := impl.GreatestClique(x, a.c)
			wantList(t, "GreatestClique: "+what, list, code, nil, impl.ErrInvalid)
			count, code := impl.CountCliques(x, a.c, a.m)
			wantNumber(t, "CountCliques: "+what, count, code, 0, impl.ErrInvalid)
			lists, code := impl.CliqueList(x, a.c, a.m)
			wantNumber(t, "CliqueList: "+what, int64(len(lists)), code, 0, impl.ErrInvalid)
			lists, code = impl.FullCliques(x, a.c)
			wantNumber(t, "FullCliques: "+what, int64(len(lists)), code, 0, impl.ErrInvalid)
			at, code := impl.CliquesAt(x, a.c, a.p, a.m)
			wantNumber(t, "CliquesAt: "+what, at, code, 0, impl.ErrInvalid)
			avoids, code := impl.AvoidsSizes(x, []int64{a.m, a.p})
			wantBool(t, "AvoidsSizes: "+what, avoids, code, false, impl.ErrInvalid)
			c, first, code := impl.FirstOfSizes(x, []int64{a.m, a.p})
			wantNumber(t, "FirstOfSizes: "+what, c, code, 0, impl.ErrInvalid)
			wantList(t, "FirstOfSizes: "+what, first, code, nil, impl.ErrInvalid)
		}
		avoids, code := impl.AvoidsSizes(x, []int64{3, 3})
		wantBool(t, "AvoidsSizes: "+what, avoids, code, false, impl.ErrInvalid)
		list, code := impl.CliqueNumbers(x)
		wantList(t, "CliqueNumbers: "+what, list, code, nil, impl.ErrInvalid)
		list, code = impl.CountTriangles(x)
		wantList(t, "CountTriangles: "+what, list, code, nil, impl.ErrInvalid)
		angles, code := impl.AngleNumber(x)
		wantNumber(t, "AngleNumber: "+what, angles, code, 0, impl.ErrInvalid)
	}
}

func TestL02ListsStayAsTheyAre(t *testing.T) {
	x := named(t, "eight")
	for _, list := range [][]int64{{0, 1}, {2, 1}, {3, 3}, {5, 4, 3}, {0, 2, 5}, {3, 4}} {
		given := withSpare(list...)
		impl.IsClique(x, 1, given)
		impl.AvoidsSizes(x, given)
		impl.FirstOfSizes(x, given)
		if !slices.Equal(given[:len(list)+3], append(slices.Clone(list), 77, 77, 77)) {
			t.Errorf("a list %v is changed to %v", list, given[:len(list)+3])
		}
	}
}

// Writing to one list of a result, or behind it, must not show in another one.
func TestL02ResultsAreNew(t *testing.T) {
	x := named(t, "seventeen")
	for _, get := range []func() [][]int64{
		func() [][]int64 { lists, _ := impl.CliqueList(x, 0, 3); return lists },
		func() [][]int64 { lists, _ := impl.FullCliques(x, 1); return lists },
		func() [][]int64 { list, _ := impl.GreatestClique(x, 1); return [][]int64{list} },
		func() [][]int64 { list, _ := impl.CliqueNumbers(x); return [][]int64{list} },
		func() [][]int64 { list, _ := impl.CountTriangles(x); return [][]int64{list} },
		func() [][]int64 { _, list, _ := impl.FirstOfSizes(x, []int64{3, 3}); return [][]int64{list} },
	} {
		first, second := get(), get()
		for place, list := range first {
			list = append(list, -1)
			for i := range list {
				list[i] = -1
			}
			first[place] = append(first[place], -1)
			for i := range first[place] {
				first[place][i] = -1
			}
			if place+1 < len(first) && !slices.Equal(first[place+1], second[place+1]) {
				t.Errorf("list %d is changed by list %d", place+1, place)
			}
		}
		if third := get(); !sameLists(second, third) {
			t.Errorf("a result is changed: %v and %v", second, third)
		}
	}
}

// The clique numbers of one colour with the edges between a set of points are those of the set.
func TestL02SetsOfOneColour(t *testing.T) {
	for n := int64(1); n <= 9; n++ {
		for set := range uint64(1) << n {
			x := oneColour(n, 2, 1)
			for j := range n {
				for i := range j {
					if set>>i&1 == 1 && set>>j&1 == 1 {
						x.Edges[j*(j-1)/2+i] = 0
					}
				}
			}
			numbers, _ := impl.CliqueNumbers(x)
			inside := int64(bits.OnesCount64(set))
			want := []int64{max(inside, 1), n - inside + min(inside, 1)}
			wantList(t, "CliqueNumbers", numbers, impl.ErrNone, want, impl.ErrNone)
		}
	}
}
