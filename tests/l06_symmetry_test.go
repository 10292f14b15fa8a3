package tests

import (
	"bytes"
	"math"
	"runtime"
	"slices"
	"testing"
	"time"

	"loop.example/g01362/impl"
)

// everyOrder calls a function with all orders of the numbers 0 to n - 1 that begin with a list, in
// lexicographic order.
func everyOrder(n int64, begin []int64, use func(p []int64)) {
	if int64(len(begin)) == n {
		use(slices.Clone(begin))
		return
	}
	for i := range n {
		if !slices.Contains(begin, i) {
			everyOrder(n, append(slices.Clone(begin), i), use)
		}
	}
}

// renumbered returns a colouring renumbered by a list, by the definition alone.
func renumbered(x impl.Colouring, p []int64) impl.Colouring {
	y := impl.Colouring{Points: x.Points, Colours: x.Colours}
	for j := range x.Points {
		for i := range j {
			low, high := min(p[i], p[j]), max(p[i], p[j])
			y.Edges[high*(high-1)/2+low] = byte(colourIn(x, i, j))
		}
	}
	return y
}

// exchanged returns a colouring with its colours exchanged by a list, by the definition alone.
func exchanged(x impl.Colouring, q []int64) impl.Colouring {
	for e := range x.Points * (x.Points - 1) / 2 {
		x.Edges[e] = byte(q[x.Edges[e]])
	}
	return x
}

// everyLeader calls a function with all renumberings that lead x to y and begin with a list, in
// lexicographic order, until it returns false; it reports whether it never did. It takes point after
// point, as long as the edges between those that are taken have the right colours.
func everyLeader(x impl.Colouring, y impl.Colouring, begin []int64, use func(p []int64) bool) bool {
	if x.Points != y.Points || x.Colours != y.Colours {
		return true
	}
	i := int64(len(begin))
	if i == x.Points {
		return use(slices.Clone(begin))
	}
	for image := range x.Points {
		right := !slices.Contains(begin, image)
		for h := int64(0); right && h < i; h++ {
			right = colourIn(x, h, i) == colourIn(y, begin[h], image)
		}
		if right && !everyLeader(x, y, append(slices.Clone(begin), image), use) {
			return false
		}
	}
	return true
}

// leastLeader returns the least renumbering that leads x to y, or nil.
func leastLeader(x impl.Colouring, y impl.Colouring) []int64 {
	var least []int64
	everyLeader(x, y, nil, func(p []int64) bool {
		least = p
		return false
	})
	return least
}

// leastAlike returns what FindAlike must return, or nil.
func leastAlike(x impl.Colouring, y impl.Colouring) ([]int64, []int64) {
	var colours, points []int64
	everyOrder(x.Colours, nil, func(q []int64) {
		if points == nil {
			colours, points = q, leastLeader(exchanged(x, q), y)
		}
	})
	if points == nil {
		return nil, nil
	}
	return colours, points
}

// wantAlike checks what FindAlike returns; there must be nothing if no points are wanted.
func wantAlike(t *testing.T, x impl.Colouring, y impl.Colouring, colours []int64, points []int64) {
	t.Helper()
	wantCode := int64(impl.ErrNone)
	if points == nil {
		wantCode = impl.ErrNotFound
	}
	q, p, code := impl.FindAlike(x, y)
	wantList(t, "FindAlike, colours,", q, code, colours, wantCode)
	wantList(t, "FindAlike, points,", p, code, points, wantCode)
}

// checkPair compares what is told of two colourings with the definitions.
func checkPair(t *testing.T, x impl.Colouring, y impl.Colouring) {
	t.Helper()
	least := leastLeader(x, y)
	wantCode := int64(impl.ErrNone)
	if least == nil {
		wantCode = impl.ErrNotFound
	}
	p, code := impl.FindRenumbering(x, y)
	wantList(t, "FindRenumbering", p, code, least, wantCode)
	is, code := impl.AreIsomorphic(x, y)
	wantBool(t, "AreIsomorphic", is, code, least != nil, impl.ErrNone)
	colours, points := leastAlike(x, y)
	wantAlike(t, x, y, colours, points)
}

// orbitsOf returns the images of each point, as lists in the order of their least points.
func orbitsOf(n int64, renumberings [][]int64) [][]int64 {
	var orbits [][]int64
	for i := range n {
		var orbit []int64
		for _, p := range renumberings {
			if !slices.Contains(orbit, p[i]) {
				orbit = append(orbit, p[i])
			}
		}
		if slices.Sort(orbit); orbit[0] == i {
			orbits = append(orbits, orbit)
		}
	}
	return orbits
}

// isSelfAlikeByDefinition reports whether a colouring is self-alike.
func isSelfAlikeByDefinition(x impl.Colouring) bool {
	is := false
	everyOrder(x.Colours, nil, func(q []int64) {
		is = is || !slices.IsSorted(q) && leastLeader(exchanged(x, q), x) != nil
	})
	return is
}

// checkSymmetry compares what is told of one colouring with the definitions. It must have few
// automorphisms.
func checkSymmetry(t *testing.T, x impl.Colouring) {
	t.Helper()
	var automorphisms [][]int64
	everyLeader(x, x, nil, func(p []int64) bool {
		automorphisms = append(automorphisms, p)
		return true
	})
	count, code := impl.CountAutomorphisms(x)
	wantNumber(t, "CountAutomorphisms", count, code, int64(len(automorphisms)), impl.ErrNone)
	orbits, code := impl.PointOrbits(x)
	wantLists(t, "PointOrbits", orbits, code, orbitsOf(x.Points, automorphisms))
	is, code := impl.IsSelfAlike(x)
	wantBool(t, "IsSelfAlike", is, code, isSelfAlikeByDefinition(x), impl.ErrNone)
}

// leastFormByDefinition returns the least form.
func leastFormByDefinition(x impl.Colouring) impl.Colouring {
	least := x
	everyOrder(x.Points, nil, func(p []int64) {
		if y := renumbered(x, p); bytes.Compare(y.Edges[:], least.Edges[:]) < 0 {
			least = y
		}
	})
	return least
}

// everyColouringOf calls a function with all colourings of n points and k colours.
func everyColouringOf(n int64, k int64, use func(x impl.Colouring)) {
	everyList(n*(n-1)/2, k, func(list []int64) {
		x := impl.Colouring{Points: n, Colours: k}
		for e, c := range list {
			x.Edges[e] = byte(c)
		}
		use(x)
	})
}

// beside returns a colouring with parts one after the other; the edges between them have one colour.
func beside(k int64, between byte, parts ...impl.Colouring) impl.Colouring {
	x := impl.Colouring{Points: 0, Colours: k}
	for _, part := range parts {
		begin := x.Points
		for j := range part.Points {
			list := bytes.Repeat([]byte{between}, int(begin))
			for i := range j {
				list = append(list, byte(colourIn(part, i, j)))
			}
			high := begin + j
			copy(x.Edges[high*(high-1)/2:], list)
			x.Points++
		}
	}
	return x
}

// circle returns a cycle of the colour 0 through all points; all other edges have the colour 1.
func circle(n int64) impl.Colouring { return byRule(n, 2, byCircle(n, 1, n-1)) }

// spider returns legs of the colour 0, paths of different numbers of points, at the point 0; all other
// edges have the colour 1.
func spider(legs ...int64) impl.Colouring {
	var pairs [][2]int64
	next := int64(1)
	for _, length := range legs {
		before := int64(0)
		for range length {
			pairs = append(pairs, [2]int64{before, next})
			before, next = next, next+1
		}
	}
	return withOnly(next, pairs...)
}

// nearWhere returns the colouring of two colours with the colour 0 where a rule says so.
func nearWhere(n int64, rule func(i int64, j int64) bool) impl.Colouring {
	return byRule(n, 2, func(i int64, j int64) int64 {
		if rule(i, j) {
			return 0
		}
		return 1
	})
}

// rook has the colour 0 for points in one row or one column of a square of 16 points.
func rook() impl.Colouring {
	return nearWhere(16, func(i int64, j int64) bool { return i/4 == j/4 || i%4 == j%4 })
}

// shrikhande has as many neighbours, and as many common ones, as rook, but is another colouring.
func shrikhande() impl.Colouring {
	return nearWhere(16, func(i int64, j int64) bool {
		row, column := (j/4-i/4+4)%4, (j%4-i%4+4)%4
		return row == 0 && column%2 == 1 || column == 0 && row%2 == 1 || row == column && row%2 == 1
	})
}

// prism has two triangles of the colour 0, and an edge of it from each point of one to one of the other.
func prism() impl.Colouring {
	return nearWhere(6, func(i int64, j int64) bool { return i/3 == j/3 || i%3 == j%3 })
}

// twoThrees has the colour 0 between two sets of three points, with the degrees of prism.
func twoThrees() impl.Colouring {
	return nearWhere(6, func(i int64, j int64) bool { return i%2 != j%2 })
}

// sameDegrees returns pairs of colourings with the same degrees in all colours that are not isomorphic,
// and have many renumberings of their parts.
func sameDegrees() [][2]impl.Colouring {
	point, three, four, five := oneColour(1, 2, 0), circle(3), circle(4), circle(5)
	return [][2]impl.Colouring{
		{circle(6), beside(2, 1, three, three)},
		{prism(), twoThrees()},
		{beside(2, 1, rook(), point), beside(2, 1, shrikhande(), point)},
		{beside(2, 1, oneColour(11, 2, 1), prism()), beside(2, 1, oneColour(11, 2, 1), twoThrees())},
		{beside(2, 1, prism(), oneColour(11, 2, 1)), beside(2, 1, twoThrees(), oneColour(11, 2, 1))},
		{beside(2, 1, oneColour(11, 2, 0), prism()), beside(2, 1, oneColour(11, 2, 0), twoThrees())},
		{beside(4, 2, oneColour(5, 4, 0), oneColour(5, 4, 3), circle(7)), beside(4, 2, oneColour(5, 4, 0), oneColour(5, 4, 3), beside(2, 1, three, four))},
		{beside(2, 1, three, three, three, circle(8)), beside(2, 1, three, three, three, four, four)},
		{beside(2, 1, three, three, three, four, four), beside(2, 1, three, three, three, three, five)},
		{beside(2, 1, four, four, circle(9)), beside(2, 1, four, four, four, five)},
		{beside(3, 1, twoThrees(), twoThrees(), five), beside(3, 1, prism(), twoThrees(), five)},
		{circle(17), beside(2, 1, four, four, four, five)},
		{byRule(17, 2, byCircle(17, 1, 2, 15, 16)), byRule(17, 2, byCircle(17, 1, 4, 13, 16))},
	}
}

// soon fails if a function takes unreasonably long.
func soon(t *testing.T, what string, use func()) {
	t.Helper()
	done := make(chan bool)
	go func() {
		defer close(done)
		use()
	}()
	select {
	case <-done:
	case <-time.After(30 * time.Second):
		t.Fatalf("%s takes longer than 30 seconds", what)
	}
}

func TestL06Constants(t *testing.T) {
	if impl.MaxAutomorphisms != 20000 || impl.MaxForm != 6 {
		t.Errorf("MaxAutomorphisms is %d, MaxForm %d", impl.MaxAutomorphisms, impl.MaxForm)
	}
}

func TestL06EveryTwoColouringsOfFewPoints(t *testing.T) {
	for _, shape := range [][2]int64{{1, 1}, {1, 2}, {1, 4}, {2, 1}, {2, 2}, {2, 3}, {2, 4}, {3, 1}, {3, 2}, {3, 3}, {4, 1}, {4, 2}} {
		n, k := shape[0], shape[1]
		everyColouringOf(n, k, func(x impl.Colouring) {
			everyColouringOf(n, k, func(y impl.Colouring) { checkPair(t, x, y) })
		})
	}
}

func TestL06EveryColouringOfFewPoints(t *testing.T) {
	most := []int64{0, 6, 5, 4, 3} // points, by the number of colours
	for k := int64(1); k <= impl.MaxColours; k++ {
		for n := int64(1); n <= most[k]; n++ {
			everyColouringOf(n, k, func(x impl.Colouring) {
				checkSymmetry(t, x)
				form, code := impl.LeastForm(x)
				wantSame(t, "LeastForm", form, code, leastFormByDefinition(x), impl.ErrNone)
			})
		}
	}
}

func TestL06LeadsTo(t *testing.T) {
	for n := int64(1); n <= 5; n++ {
		for k := int64(1); k <= impl.MaxColours; k++ {
			x := mixed(n, k, 1)
			for seed := range uint64(3) {
				y := renumbered(x, mixedList(n, seed))
				everyOrder(n, nil, func(p []int64) {
					is, code := impl.LeadsTo(x, y, p)
					wantBool(t, "LeadsTo", is, code, renumbered(x, p) == y, impl.ErrNone)
				})
			}
		}
	}
	// The image of the point 0 is in its place: a list that goes back leads the other way.
	path := spider(1, 3)
	turned := renumbered(path, []int64{2, 0, 4, 1, 3})
	is, code := impl.LeadsTo(path, turned, []int64{2, 0, 4, 1, 3})
	wantBool(t, "LeadsTo", is, code, true, impl.ErrNone)
	is, code = impl.LeadsTo(turned, path, []int64{2, 0, 4, 1, 3})
	wantBool(t, "LeadsTo the other way", is, code, false, impl.ErrNone)
	is, code = impl.LeadsTo(turned, path, []int64{1, 3, 0, 4, 2})
	wantBool(t, "LeadsTo back", is, code, true, impl.ErrNone)
	// The last edge counts.
	late := oneColour(17, 4, 0)
	late.Edges[135] = 3
	is, code = impl.LeadsTo(late, late, upTo(17))
	wantBool(t, "LeadsTo of 17 points", is, code, true, impl.ErrNone)
	is, code = impl.LeadsTo(late, oneColour(17, 4, 0), upTo(17))
	wantBool(t, "LeadsTo of 17 points, one edge apart", is, code, false, impl.ErrNone)
}

// Promise 6: found renumberings lead to the colourings. The colours and points that are found are the
// least ones.
func TestL06FoundRenumberingsLead(t *testing.T) {
	everyShape(func(x impl.Colouring) {
		for seed := range uint64(2) {
			y, _ := impl.RenumberPoints(x, mixedList(x.Points, seed))
			checkPair(t, x, y)
			p, code := impl.FindRenumbering(x, y)
			is, leadsCode := impl.LeadsTo(x, y, p)
			wantBool(t, "LeadsTo of what is found", is, max(code, leadsCode), true, impl.ErrNone)
			back, code := impl.RenumberPoints(x, p)
			wantSame(t, "RenumberPoints by what is found", back, code, y, impl.ErrNone)
			z, _ := impl.ExchangeColours(y, mixedList(x.Colours, seed+5))
			q, p, code := impl.FindAlike(x, z)
			changed, changedCode := impl.ExchangeColours(x, q)
			is, leadsCode = impl.LeadsTo(changed, z, p)
			wantBool(t, "LeadsTo of what is alike", is, max(code, changedCode, leadsCode), true, impl.ErrNone)
			colours, points := leastAlike(x, z)
			wantAlike(t, x, z, colours, points)
		}
		if x.Points > 2 && x.Colours > 1 {
			// One edge more of a colour than before.
			y := x
			y.Edges[1] = (y.Edges[1] + 1) % byte(x.Colours)
			is, code := impl.AreIsomorphic(x, y)
			wantBool(t, "AreIsomorphic with one edge changed", is, code, false, impl.ErrNone)
		}
	})
}

// Promise 6: isomorphic colourings have the same least form, and others have another one.
func TestL06LeastForms(t *testing.T) {
	for n := int64(1); n <= impl.MaxForm; n++ {
		for k := int64(1); k <= impl.MaxColours; k++ {
			for seed := range uint64(6) {
				x := mixed(n, k, seed)
				form, code := impl.LeastForm(x)
				wantSame(t, "LeastForm", form, code, leastFormByDefinition(x), impl.ErrNone)
				is, code := impl.AreIsomorphic(x, form)
				wantBool(t, "AreIsomorphic to the least form", is, code, true, impl.ErrNone)
				own, code := impl.LeastForm(form)
				wantSame(t, "LeastForm of a least form", own, code, form, impl.ErrNone)
				again, code := impl.LeastForm(renumbered(x, mixedList(n, seed+3)))
				wantSame(t, "LeastForm of an isomorphic colouring", again, code, form, impl.ErrNone)
				other := mixed(n, k, seed+100)
				otherForm, _ := impl.LeastForm(other)
				is, code = impl.AreIsomorphic(x, other)
				wantBool(t, "AreIsomorphic of the same least form", is, code, otherForm == form, impl.ErrNone)
			}
		}
	}
	for _, one := range [][2]string{
		{"1,1:", "1,1:"}, {"1,4:", "1,4:"}, {"2,4:3", "2,4:3"}, {"3,2:1,00", "3,2:0,01"}, {"3,2:0,10", "3,2:0,01"}, {"3,3:2,10", "3,3:0,12"},
		{"4,2:1,10,001", "4,2:0,01,101"}, {"5,2:0,10,110,0110", "5,2:0,01,101,1100"}, {"6,4:3,33,333,3333,33333", "6,4:3,33,333,3333,33333"},
		{"6,2:0,00,000,0000,00001", "6,2:0,00,000,0000,00001"}, {"6,2:1,00,000,0000,00000", "6,2:0,00,000,0000,00001"},
	} {
		form, code := impl.LeastForm(parsed(t, one[0]))
		wantColouring(t, "LeastForm of "+one[0], form, code, leastText(t, one[1]), impl.ErrNone)
	}
	for n := int64(impl.MaxForm + 1); n <= impl.MaxPoints; n++ {
		for k := int64(1); k <= impl.MaxColours; k++ {
			form, code := impl.LeastForm(mixed(n, k, 1))
			wantColouring(t, "LeastForm of too many points", form, code, "", impl.ErrLimit)
		}
	}
}

// leastText returns a text of a least form as it is, if it is the least one by the definition.
func leastText(t *testing.T, text string) string {
	t.Helper()
	x := parsed(t, text)
	if form := leastFormByDefinition(x); form != x {
		got, _ := impl.ColouringText(form)
		t.Errorf("%s is no least form, but %s is", text, got)
	}
	return text
}

// Promise 14: isomorphic colourings have the same clique numbers.
func TestL06IsomorphicCliqueNumbers(t *testing.T) {
	check := func(x impl.Colouring, seed uint64) {
		y, _ := impl.RenumberPoints(x, mixedList(x.Points, seed))
		is, code := impl.AreIsomorphic(x, y)
		wantBool(t, "AreIsomorphic", is, code, true, impl.ErrNone)
		numbers, _ := impl.CliqueNumbers(x)
		others, code := impl.CliqueNumbers(y)
		wantList(t, "CliqueNumbers of an isomorphic colouring", others, code, numbers, impl.ErrNone)
	}
	everyShape(func(x impl.Colouring) { check(x, 1) })
	for _, x := range []impl.Colouring{
		named(t, "pentagon"), named(t, "eight"), named(t, "thirteen"), named(t, "sixteen"), named(t, "seventeen"),
		rook(), shrikhande(), inGroups(3, 3, 3, 3, 3, 2), oneColour(17, 4, 2), spider(1, 2, 3, 4, 6),
	} {
		for seed := range uint64(3) {
			check(x, seed)
		}
	}
	// What tells clique numbers apart tells colourings apart.
	for n := int64(3); n <= 8; n++ {
		for k := int64(2); k <= impl.MaxColours; k++ {
			for seed := range uint64(20) {
				x, y := mixed(n, k, seed), mixed(n, k, seed+50)
				numbers, _ := impl.CliqueNumbers(x)
				others, _ := impl.CliqueNumbers(y)
				is, code := impl.AreIsomorphic(x, y)
				if code != impl.ErrNone || is && !slices.Equal(numbers, others) {
					t.Errorf("AreIsomorphic returns %v and %d for clique numbers %v and %v", is, code, numbers, others)
				}
			}
		}
	}
}

func TestL06OnePoint(t *testing.T) {
	for k := int64(1); k <= impl.MaxColours; k++ {
		x := oneColour(1, k, 0)
		checkPair(t, x, x)
		checkSymmetry(t, x)
		is, code := impl.LeadsTo(x, x, []int64{0})
		wantBool(t, "LeadsTo of one point", is, code, true, impl.ErrNone)
		p, code := impl.FindRenumbering(x, x)
		wantList(t, "FindRenumbering of one point", p, code, []int64{0}, impl.ErrNone)
		count, code := impl.CountAutomorphisms(x)
		wantNumber(t, "CountAutomorphisms of one point", count, code, 1, impl.ErrNone)
		orbits, code := impl.PointOrbits(x)
		wantLists(t, "PointOrbits of one point", orbits, code, [][]int64{{0}})
		// Without edges all colours may be exchanged, if there are more than one.
		is, code = impl.IsSelfAlike(x)
		wantBool(t, "IsSelfAlike of one point", is, code, k > 1, impl.ErrNone)
		form, code := impl.LeastForm(x)
		wantSame(t, "LeastForm of one point", form, code, x, impl.ErrNone)
	}
}

// Of several renumberings the least one is told, and the least list of colours before them.
func TestL06TheLeastOfSeveral(t *testing.T) {
	pentagon := named(t, "pentagon")
	p, code := impl.FindRenumbering(pentagon, pentagon)
	wantList(t, "FindRenumbering of itself", p, code, upTo(5), impl.ErrNone)
	other := exchanged(pentagon, []int64{1, 0})
	p, code = impl.FindRenumbering(pentagon, other)
	wantList(t, "FindRenumbering of the other colour", p, code, []int64{0, 2, 4, 1, 3}, impl.ErrNone)
	// With the colours exchanged the points could stay, but the colours come first.
	wantAlike(t, pentagon, other, []int64{0, 1}, []int64{0, 2, 4, 1, 3})
	p, code = impl.FindRenumbering(parsed(t, "4,2:0,11,111"), parsed(t, "4,2:1,11,110"))
	wantList(t, "FindRenumbering of one edge", p, code, []int64{2, 3, 0, 1}, impl.ErrNone)
	wantAlike(t, parsed(t, "3,4:3,33"), parsed(t, "3,4:1,11"), []int64{0, 2, 3, 1}, []int64{0, 1, 2})
	wantAlike(t, parsed(t, "3,3:2,10"), parsed(t, "3,3:0,12"), []int64{0, 1, 2}, []int64{2, 1, 0})
	wantAlike(t, parsed(t, "3,3:2,10"), parsed(t, "3,3:0,11"), nil, nil)
	for k := int64(1); k <= impl.MaxColours; k++ {
		full := oneColour(17, k, byte(k-1))
		p, code = impl.FindRenumbering(full, full)
		wantList(t, "FindRenumbering of one colour", p, code, upTo(17), impl.ErrNone)
		wantAlike(t, full, full, upTo(k), upTo(17))
	}
	p, code = impl.FindRenumbering(inGroups(8, 9), inGroups(9, 8))
	wantList(t, "FindRenumbering of groups", p, code, append(upTo(17)[9:], upTo(9)...), impl.ErrNone)
	p, code = impl.FindRenumbering(inGroups(1, 2, 2, 2, 2, 2, 2, 2, 2), inGroups(2, 2, 2, 2, 2, 2, 2, 2, 1))
	wantList(t, "FindRenumbering of pairs", p, code, append([]int64{16}, upTo(16)...), impl.ErrNone)
	for _, name := range []string{"pentagon", "eight", "thirteen", "sixteen", "seventeen"} {
		x := named(t, name)
		for seed := range uint64(4) {
			y := renumbered(x, mixedList(x.Points, seed))
			checkPair(t, x, y)
			checkPair(t, exchanged(x, mixedList(x.Colours, seed+9)), y)
		}
	}
}

func TestL06OtherPointsOrColours(t *testing.T) {
	for _, one := range [][2]impl.Colouring{
		{parsed(t, "1,1:"), parsed(t, "2,1:0")}, {parsed(t, "2,1:0"), parsed(t, "1,1:")}, {parsed(t, "1,1:"), parsed(t, "1,2:")}, {parsed(t, "1,4:"), parsed(t, "1,3:")},
		{parsed(t, "3,2:0,00"), parsed(t, "3,3:0,00")}, {parsed(t, "3,3:0,00"), parsed(t, "3,2:0,00")}, {oneColour(17, 1, 0), oneColour(16, 1, 0)},
		{oneColour(16, 4, 0), oneColour(17, 4, 0)}, {oneColour(17, 4, 0), oneColour(17, 1, 0)}, {oneColour(17, 1, 0), oneColour(17, 4, 0)},
		{named(t, "seventeen"), named(t, "sixteen")}, {named(t, "pentagon"), named(t, "eight")}, {mixed(17, 3, 1), mixed(1, 4, 1)},
	} {
		x, y := one[0], one[1]
		is, code := impl.LeadsTo(x, y, upTo(x.Points))
		wantBool(t, "LeadsTo of another shape", is, code, false, impl.ErrNone)
		p, code := impl.FindRenumbering(x, y)
		wantList(t, "FindRenumbering of another shape", p, code, nil, impl.ErrNotFound)
		is, code = impl.AreIsomorphic(x, y)
		wantBool(t, "AreIsomorphic of another shape", is, code, false, impl.ErrNone)
		wantAlike(t, x, y, nil, nil)
	}
}

func TestL06SameDegreesButNotIsomorphic(t *testing.T) {
	for place, pair := range sameDegrees() {
		soon(t, "a pair with the same degrees", func() {
			for seed := range uint64(4) {
				x, y := pair[0], pair[1]
				if seed%2 == 1 {
					x, y = y, x
				}
				if seed > 1 {
					x, y = renumbered(x, mixedList(x.Points, seed)), renumbered(y, mixedList(x.Points, seed+20))
				}
				is, code := impl.AreIsomorphic(x, y)
				wantBool(t, "AreIsomorphic of the same degrees", is, code, false, impl.ErrNone)
				p, code := impl.FindRenumbering(x, y)
				wantList(t, "FindRenumbering of the same degrees", p, code, nil, impl.ErrNotFound)
				wantAlike(t, x, y, nil, nil)
				for _, one := range []impl.Colouring{x, y} {
					moved := renumbered(one, mixedList(one.Points, seed+40))
					p, code = impl.FindRenumbering(one, moved)
					is, leadsCode := impl.LeadsTo(one, moved, p)
					wantBool(t, "LeadsTo of what is found", is, max(code, leadsCode), true, impl.ErrNone)
				}
			}
			for c := range pair[0].Colours {
				a, _ := impl.DegreesOf(pair[0], c)
				b, _ := impl.DegreesOf(pair[1], c)
				if slices.Sort(a); !slices.Equal(a, slices.Sorted(slices.Values(b))) {
					t.Errorf("pair %d has different degrees in the colour %d", place, c)
				}
			}
		})
	}
}

func TestL06Alike(t *testing.T) {
	path, legs := spider(8, 8), spider(1, 2, 3, 4, 6)
	for _, x := range []impl.Colouring{path, legs, named(t, "thirteen"), named(t, "eight"), inGroups(8, 9), circle(17)} {
		y := renumbered(exchanged(x, []int64{1, 0}), mixedList(x.Points, 1))
		is, code := impl.AreIsomorphic(x, y)
		wantBool(t, "AreIsomorphic with colours exchanged", is, code, false, impl.ErrNone)
		q, p, code := impl.FindAlike(x, y)
		wantList(t, "FindAlike with colours exchanged", q, code, []int64{1, 0}, impl.ErrNone)
		is, code = impl.LeadsTo(exchanged(x, q), y, p)
		wantBool(t, "LeadsTo of what is alike", is, code, true, impl.ErrNone)
	}
	wantAlike(t, path, legs, nil, nil)
	wantAlike(t, circle(17), path, nil, nil)
	for n := int64(2); n <= 5; n++ {
		for k := int64(1); k <= impl.MaxColours; k++ {
			for seed := range uint64(10) {
				checkPair(t, mixed(n, k, seed), mixed(n, k, seed+10))
			}
		}
	}
	// Four colours, of which each has as many edges, exchanged in all ways.
	x := byRule(17, 4, func(i int64, j int64) int64 { return stepsBetween(17, i, j) % 4 })
	everyOrder(4, nil, func(q []int64) {
		y := renumbered(exchanged(x, q), mixedList(17, uint64(q[0]*10+q[1])))
		colours, points := leastAlike(x, y)
		wantAlike(t, x, y, colours, points)
	})
}

func TestL06SelfAlike(t *testing.T) {
	for _, one := range []struct {
		x    impl.Colouring
		want bool
	}{
		{named(t, "pentagon"), true}, {named(t, "seventeen"), true}, {named(t, "sixteen"), true}, {named(t, "eight"), false}, {named(t, "thirteen"), false},
		{circle(17), false}, {spider(1, 2), true}, {spider(1, 1, 1), false}, {spider(1, 2, 3, 4, 6), false}, {oneColour(17, 1, 0), false},
		// Colours without edges may be exchanged with one another, but one alone may not.
		{oneColour(17, 2, 0), false}, {oneColour(17, 3, 1), true}, {oneColour(17, 4, 3), true},
		{parsed(t, "2,1:0"), false}, {parsed(t, "2,2:1"), false}, {parsed(t, "2,3:1"), true}, {parsed(t, "3,3:0,12"), true}, {parsed(t, "3,3:0,01"), false},
		{beside(3, 2, named(t, "pentagon"), named(t, "pentagon"), named(t, "pentagon")), true}, {beside(3, 2, circle(5), circle(5), circle(6)), false},
		{parsed(t, "4,4:0,12,210"), true}, {parsed(t, "4,3:0,12,210"), true}, {parsed(t, "4,3:0,02,020"), false},
		{beside(4, 3, named(t, "sixteen"), oneColour(1, 4, 0)), true}, {beside(4, 0, spider(1, 3, 3, 3, 3)), true}, {beside(3, 0, spider(1, 2, 3, 4, 6)), false},
	} {
		is, code := impl.IsSelfAlike(one.x)
		if text, _ := impl.ColouringText(one.x); is != one.want || code != impl.ErrNone {
			t.Errorf("IsSelfAlike(%s) = %v and %d, not %v", text, is, code, one.want)
		}
		if one.x.Points <= 7 {
			checkSymmetry(t, one.x)
		}
	}
}

// factorial returns the number of the orders of n numbers.
func factorial(n int64) int64 {
	product := int64(1)
	for factor := range n {
		product *= factor + 1
	}
	return product
}

func TestL06CountAutomorphisms(t *testing.T) {
	five, four, two := oneColour(5, 3, 0), circle(4), oneColour(2, 3, 0)
	for _, one := range []struct {
		x    impl.Colouring
		want int64
	}{
		{named(t, "pentagon"), 10}, {named(t, "eight"), 16}, {named(t, "thirteen"), 52}, {named(t, "seventeen"), 136}, {named(t, "sixteen"), 160},
		{rook(), 1152}, {shrikhande(), 192}, {prism(), 12}, {twoThrees(), 72}, {circle(17), 34}, {spider(8, 8), 2}, {spider(1, 2, 3, 4, 6), 1},
		{inGroups(2, 2, 2, 2, 2), 3840}, {inGroups(4, 4, 2, 2), 9216}, {inGroups(7, 1, 1), 10080}, {inGroups(6, 4), 17280},
		// As near to MaxAutomorphisms as it gets, and over it.
		{beside(3, 2, five, circle(5), four, two), 19200}, {beside(3, 2, two, four, circle(5), five, oneColour(1, 3, 0)), 19200},
		{inGroups(7, 2, 1), 10080}, {inGroups(7, 2, 2), 40320}, {beside(4, 2, oneColour(7, 4, 0), two, oneColour(2, 4, 3)), 20160},
		{beside(4, 2, oneColour(7, 4, 0), oneColour(8, 4, 2), two), 0}, {inGroups(2, 2, 2, 2, 2, 2), 46080},
		{inGroups(8, 9), 0}, {inGroups(2, 2, 2, 2, 2, 2, 2, 2, 1), 0}, {inGroups(3, 3, 3, 3, 3, 2), 0}, {inGroups(4, 4, 4, 4, 1), 0}, {inGroups(16, 1), 0},
	} {
		wantCode := int64(impl.ErrNone)
		if one.want == 0 || one.want > impl.MaxAutomorphisms {
			one.want, wantCode = 0, impl.ErrLimit
		}
		for seed := range uint64(3) {
			soon(t, "CountAutomorphisms", func() {
				count, code := impl.CountAutomorphisms(renumbered(one.x, mixedList(one.x.Points, seed)))
				wantNumber(t, "CountAutomorphisms", count, code, one.want, wantCode)
			})
		}
	}
	for n := int64(1); n <= impl.MaxPoints; n++ {
		for k := int64(1); k <= impl.MaxColours; k++ {
			want, wantCode := factorial(n), int64(impl.ErrNone)
			if n > 7 {
				want, wantCode = 0, impl.ErrLimit
			}
			soon(t, "CountAutomorphisms of one colour", func() {
				count, code := impl.CountAutomorphisms(oneColour(n, k, byte(k-1)))
				wantNumber(t, "CountAutomorphisms of one colour", count, code, want, wantCode)
			})
		}
	}
	everyShape(func(x impl.Colouring) {
		if x.Colours > 1 && x.Points > 6 {
			checkSymmetry(t, x)
		}
	})
}

func TestL06PointOrbits(t *testing.T) {
	alone := func(n int64) [][]int64 {
		var orbits [][]int64
		for i := range n {
			orbits = append(orbits, []int64{i})
		}
		return orbits
	}
	for _, one := range []struct {
		x    impl.Colouring
		want [][]int64
	}{
		{spider(1, 2, 3), alone(7)}, {spider(1, 2, 3, 4, 6), alone(17)}, {spider(1, 3), [][]int64{{0, 3}, {1, 4}, {2}}},
		{named(t, "pentagon"), [][]int64{upTo(5)}}, {named(t, "seventeen"), [][]int64{upTo(17)}}, {named(t, "sixteen"), [][]int64{upTo(16)}},
		{rook(), [][]int64{upTo(16)}}, {shrikhande(), [][]int64{upTo(16)}}, {circle(17), [][]int64{upTo(17)}},
		{inGroups(8, 9), [][]int64{upTo(8), upTo(17)[8:]}}, {inGroups(16, 1), [][]int64{upTo(16), {16}}},
		{inGroups(2, 2, 2, 2, 2, 2, 2, 2, 1), [][]int64{upTo(16), {16}}}, {inGroups(1, 4, 1, 4, 1), [][]int64{{0, 5, 10}, {1, 2, 3, 4, 6, 7, 8, 9}}},
		{spider(2, 2, 1, 1), [][]int64{{0}, {1, 3}, {2, 4}, {5, 6}}}, {beside(2, 1, circle(3), circle(4), circle(3)), [][]int64{{0, 1, 2, 7, 8, 9}, {3, 4, 5, 6}}},
		// All points have the same degrees, but not the same places.
		{beside(2, 1, circle(5), circle(6), circle(6)), [][]int64{upTo(5), upTo(17)[5:]}},
	} {
		soon(t, "PointOrbits", func() {
			orbits, code := impl.PointOrbits(one.x)
			wantLists(t, "PointOrbits", orbits, code, one.want)
		})
	}
	for n := int64(1); n <= impl.MaxPoints; n++ {
		for k := int64(1); k <= impl.MaxColours; k++ {
			orbits, code := impl.PointOrbits(oneColour(n, k, byte(k-1)))
			wantLists(t, "PointOrbits of one colour", orbits, code, [][]int64{upTo(n)})
		}
	}
}

// The guarantee of the chapter: orbits part the points.
func TestL06OrbitsPartThePoints(t *testing.T) {
	check := func(x impl.Colouring) {
		orbits, code := impl.PointOrbits(x)
		all := slices.Concat(orbits...)
		if slices.Sort(all); code != impl.ErrNone || !slices.Equal(all, upTo(x.Points)) {
			t.Errorf("PointOrbits(%v) = %v and %d", x, orbits, code)
		}
		for place, orbit := range orbits {
			if !slices.IsSorted(orbit) || place > 0 && orbits[place-1][0] > orbit[0] {
				t.Errorf("PointOrbits(%v) = %v is not in order", x, orbits)
			}
		}
	}
	everyShape(check)
	for _, pair := range sameDegrees() {
		check(pair[0])
		check(renumbered(pair[1], mixedList(pair[1].Points, 1)))
	}
}

func TestL06CountClasses(t *testing.T) {
	want := [][]int64{
		nil, {0, 1, 1, 1, 1}, {0, 1, 2, 3, 4}, {0, 1, 4, 10, 20}, {0, 1, 11, 66, 276}, {0, 1, 34, 792, 10688}, {0, 1, 156, 25506, 1601952}, {0, 1, 1044, 2302938, 892341888},
	}
	for n := int64(-1); n <= 9; n++ {
		for k := int64(-1); k <= 6; k++ {
			classes, code := impl.CountClasses(n, k)
			if n < 1 || n > 7 || k < 1 || k > 4 {
				wantNumber(t, "CountClasses out of range", classes, code, 0, impl.ErrRange)
			} else {
				wantNumber(t, "CountClasses", classes, code, want[n][k], impl.ErrNone)
			}
		}
	}
	for _, wrong := range []int64{math.MinInt64, math.MaxInt64, 1 << 32, -7} {
		classes, code := impl.CountClasses(wrong, 2)
		wantNumber(t, "CountClasses of a wrong n", classes, code, 0, impl.ErrRange)
		classes, code = impl.CountClasses(4, wrong)
		wantNumber(t, "CountClasses of a wrong k", classes, code, 0, impl.ErrRange)
	}
}

// The guarantee of the chapter: colourings of few points have a class each.
func TestL06ColouringsHaveAClassEach(t *testing.T) {
	most := []int64{0, 6, 5, 4, 4} // points, by the number of colours
	for k := int64(1); k <= impl.MaxColours; k++ {
		for n := int64(1); n <= most[k]; n++ {
			forms := map[impl.Colouring]bool{}
			everyColouringOf(n, k, func(x impl.Colouring) {
				form, _ := impl.LeastForm(x)
				forms[form] = true
			})
			classes, code := impl.CountClasses(n, k)
			wantNumber(t, "CountClasses", classes, code, int64(len(forms)), impl.ErrNone)
		}
	}
}

// singleCalls returns the functions of one colouring, each one as a function that returns whether its
// results are zero values, and its code.
func singleCalls() map[string]func(x impl.Colouring) (bool, int64) {
	return map[string]func(x impl.Colouring) (bool, int64){
		"IsSelfAlike": func(x impl.Colouring) (bool, int64) {
			is, code := impl.IsSelfAlike(x)
			return !is, code
		},
		"CountAutomorphisms": func(x impl.Colouring) (bool, int64) {
			count, code := impl.CountAutomorphisms(x)
			return count == 0, code
		},
		"PointOrbits": func(x impl.Colouring) (bool, int64) {
			orbits, code := impl.PointOrbits(x)
			return len(orbits) == 0, code
		},
		"LeastForm": func(x impl.Colouring) (bool, int64) {
			form, code := impl.LeastForm(x)
			return form == impl.Colouring{}, code
		},
	}
}

// doubleCalls returns the functions of two colourings in the same way. A list is taken by one of them.
func doubleCalls(list []int64) map[string]func(x impl.Colouring, y impl.Colouring) (bool, int64) {
	return map[string]func(x impl.Colouring, y impl.Colouring) (bool, int64){
		"LeadsTo": func(x impl.Colouring, y impl.Colouring) (bool, int64) {
			is, code := impl.LeadsTo(x, y, list)
			return !is, code
		},
		"FindRenumbering": func(x impl.Colouring, y impl.Colouring) (bool, int64) {
			p, code := impl.FindRenumbering(x, y)
			return len(p) == 0, code
		},
		"AreIsomorphic": func(x impl.Colouring, y impl.Colouring) (bool, int64) {
			is, code := impl.AreIsomorphic(x, y)
			return !is, code
		},
		"FindAlike": func(x impl.Colouring, y impl.Colouring) (bool, int64) {
			q, p, code := impl.FindAlike(x, y)
			return len(q) == 0 && len(p) == 0, code
		},
	}
}

// With no colouring, ErrInvalid comes whatever the other arguments are.
func TestL06NoColouring(t *testing.T) {
	for what, wrong := range wrongColourings() {
		for name, call := range singleCalls() {
			if zero, code := call(wrong); !zero || code != impl.ErrInvalid {
				t.Errorf("%s, %s, returns %v and %d", name, what, zero, code)
			}
		}
		for _, list := range [][]int64{nil, {0}, upTo(3), upTo(17), {5, -1}} {
			for name, call := range doubleCalls(list) {
				for _, right := range []impl.Colouring{wrong, parsed(t, "1,1:"), parsed(t, "3,2:0,01"), oneColour(17, 4, 3)} {
					if zero, code := call(wrong, right); !zero || code != impl.ErrInvalid {
						t.Errorf("%s, the first one: %s, returns %v and %d", name, what, zero, code)
					}
					if zero, code := call(right, wrong); !zero || code != impl.ErrInvalid {
						t.Errorf("%s, the second one: %s, returns %v and %d", name, what, zero, code)
					}
				}
			}
		}
	}
}

// A wrong list is told before colourings with other numbers of points or of colours are.
func TestL06WrongListsOfPoints(t *testing.T) {
	for n := int64(1); n <= impl.MaxPoints; n++ {
		x := oneColour(n, 2, 1)
		last := upTo(n - 1)
		lists := [][]int64{
			nil, last, upTo(n + 1), sameNumber(n+1, 0), make([]int64, 1000),
			append(slices.Clone(last), n), append(slices.Clone(last), -1), append(slices.Clone(last), n+256), append(slices.Clone(last), n-1+1<<32),
			append(slices.Clone(last), math.MaxInt64), append(slices.Clone(last), math.MinInt64), append([]int64{n}, last...), append([]int64{-1}, last...),
		}
		if n > 1 {
			lists = append(lists, sameNumber(n, 0), append(slices.Clone(last), 0), append([]int64{n - 1}, upTo(n)[1:]...))
		}
		for _, list := range lists {
			for _, y := range []impl.Colouring{x, oneColour(n, 3, 1), oneColour(max(1, n-1), 2, 1), oneColour(min(17, n+1), 2, 1), mixed(n, 2, 1)} {
				is, code := impl.LeadsTo(x, y, list)
				wantBool(t, "LeadsTo of a wrong list", is, code, false, impl.ErrRange)
			}
		}
	}
	// The list is one of the points of the first colouring.
	is, code := impl.LeadsTo(parsed(t, "2,1:0"), parsed(t, "3,1:0,00"), upTo(3))
	wantBool(t, "LeadsTo of a list of the second one", is, code, false, impl.ErrRange)
	is, code = impl.LeadsTo(parsed(t, "2,1:0"), parsed(t, "3,1:0,00"), upTo(2))
	wantBool(t, "LeadsTo of a list of the first one", is, code, false, impl.ErrNone)
}

// All functions without a limit take MaxPoints points.
func TestL06MostPoints(t *testing.T) {
	for _, x := range []impl.Colouring{
		oneColour(17, 1, 0), oneColour(17, 4, 3), mixed(17, 1, 1), mixed(17, 4, 1), named(t, "seventeen"), inGroups(3, 3, 3, 3, 3, 2),
		inGroups(2, 2, 2, 2, 2, 2, 2, 2, 1), inGroups(4, 4, 4, 4, 1), beside(4, 2, oneColour(9, 4, 0), oneColour(8, 4, 3)),
		beside(2, 1, rook(), oneColour(1, 2, 0)), beside(2, 0, circle(3), circle(3), circle(3), circle(3), circle(5)),
	} {
		for seed := range uint64(3) {
			y := renumbered(x, mixedList(17, seed))
			soon(t, "a function of 17 points", func() {
				for name, call := range doubleCalls(mixedList(17, seed)) {
					if zero, code := call(x, y); zero || code != impl.ErrNone {
						t.Errorf("%s of 17 points returns %v and %d", name, zero, code)
					}
				}
				for name, call := range singleCalls() {
					// The two functions with a limit are looked at above.
					if _, code := call(y); code != impl.ErrNone && name != "CountAutomorphisms" && name != "LeastForm" {
						t.Errorf("%s of 17 points returns the code %d", name, code)
					}
				}
			})
		}
	}
}

func TestL06ListsStayAsTheyAre(t *testing.T) {
	x := named(t, "pentagon")
	for _, list := range [][]int64{{4, 3, 2, 1, 0}, {1, 2, 3, 4, 0}, {2, 1, 0, 3, 4}, {1, 1, 0, 3, 4}, {4, 3, 2}, {9, 0, 1, 2, 3}} {
		given := withSpare(list...)
		impl.LeadsTo(x, x, given)
		if !slices.Equal(given[:len(list)+3], append(slices.Clone(list), 77, 77, 77)) {
			t.Errorf("LeadsTo changes %v to %v", list, given[:len(list)+3])
		}
	}
}

// Writing to one list of a result, or behind it, must not show in another one.
func TestL06ResultsAreNew(t *testing.T) {
	x := beside(2, 1, circle(3), circle(4), circle(3))
	for _, get := range []func() [][]int64{
		func() [][]int64 { orbits, _ := impl.PointOrbits(x); return orbits },
		func() [][]int64 { orbits, _ := impl.PointOrbits(spider(1, 2, 3)); return orbits },
		func() [][]int64 { p, _ := impl.FindRenumbering(x, x); return [][]int64{p} },
		func() [][]int64 { q, p, _ := impl.FindAlike(x, x); return [][]int64{q, p} },
	} {
		first, second := get(), get()
		for place, list := range first {
			list = append(list, -1)
			for i := range list {
				list[i] = -1
			}
			first[place] = append(first[place], -1)
			for i := range first[place] {
				first[place][i] = -1
			}
			if place+1 < len(first) && !slices.Equal(first[place+1], second[place+1]) {
				t.Errorf("list %d is changed by list %d", place+1, place)
			}
		}
		if third := get(); !sameLists(second, third) {
			t.Errorf("a result is changed: %v and %v", second, third)
		}
	}
}

// No worker goes on when the classes are counted, and all calls count the same.
func TestL06WorkersEnd(t *testing.T) {
	before := runtime.NumGoroutine()
	for range 50 {
		classes, code := impl.CountClasses(6, 3)
		wantNumber(t, "CountClasses again", classes, code, 25506, impl.ErrNone)
	}
	for range 100000 {
		if runtime.NumGoroutine() <= before {
			return
		}
		runtime.Gosched()
	}
	t.Errorf("%d goroutines before, %d after", before, runtime.NumGoroutine())
}
