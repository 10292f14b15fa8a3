package tests

import (
	"math"
	"math/big"
	"slices"
	"testing"

	"loop.example/g01362/impl"
)

// everyTwo calls a function with all pairs of numbers in least..greatest.
func everyTwo(least int64, greatest int64, use func(a int64, b int64)) {
	for a := least; a <= greatest; a++ {
		for b := least; b <= greatest; b++ {
			use(a, b)
		}
	}
}

// outside returns numbers that are not in least..greatest; some of them are so in fewer bits.
func outside(least int64, greatest int64) []int64 {
	return []int64{least - 1, greatest + 1, least - 2, greatest + 2, -least, -greatest, -1, 100000, 1<<32 + least, 1<<32 + greatest, 1<<56 + least, math.MinInt64, math.MinInt64 + greatest, math.MaxInt64}
}

// pairCall is a bound of two numbers.
type pairCall func(a int64, b int64) (int64, int64)

// wantOutside checks that a bound of two numbers in least..greatest has no others, on either side.
func wantOutside(t *testing.T, what string, call pairCall, least int64, greatest int64) {
	t.Helper()
	for _, wrong := range outside(least, greatest) {
		for _, other := range append(outside(least, greatest), least, least+1, (least+greatest)/2, greatest) {
			number, code := call(wrong, other)
			wantNumber(t, what+" outside", number, code, 0, impl.ErrRange)
			number, code = call(other, wrong)
			wantNumber(t, what+" outside", number, code, 0, impl.ErrRange)
		}
	}
}

// pairCase has two numbers and their bound.
type pairCase struct {
	a, b int64
	want int64
}

// wantPairCases checks a bound of two numbers, in both orders.
func wantPairCases(t *testing.T, what string, call pairCall, cases []pairCase) {
	t.Helper()
	for _, c := range cases {
		number, code := call(c.a, c.b)
		wantNumber(t, what, number, code, c.want, impl.ErrNone)
		number, code = call(c.b, c.a)
		wantNumber(t, what+" in the other order", number, code, c.want, impl.ErrNone)
	}
}

func TestL08MaxBound(t *testing.T) {
	if impl.MaxBound != 1000000000 {
		t.Errorf("MaxBound is %d", impl.MaxBound)
	}
}

// quotient returns (a + b - 2)! / ((a - 1)! (b - 1)!).
func quotient(a int64, b int64) int64 {
	upper, lower := new(big.Int).MulRange(1, a+b-2), new(big.Int).MulRange(1, a-1)
	lower.Mul(lower, new(big.Int).MulRange(1, b-1))
	return upper.Quo(upper, lower).Int64()
}

func TestL08BinomialBound(t *testing.T) {
	everyTwo(1, 16, func(a int64, b int64) {
		bound, code := impl.BinomialBound(a, b)
		wantNumber(t, "BinomialBound", bound, code, quotient(a, b), impl.ErrNone)
	})
	wantPairCases(t, "BinomialBound", impl.BinomialBound, []pairCase{
		{1, 1, 1}, {1, 2, 1}, {1, 16, 1}, {2, 2, 2}, {2, 16, 16}, {3, 3, 6}, {3, 4, 10}, {3, 16, 136}, {4, 4, 20}, {8, 8, 3432}, {15, 16, 77558760}, {16, 16, 155117520},
	})
	wantOutside(t, "BinomialBound", impl.BinomialBound, 1, 16)
}

// neighbourTable keeps the neighbour bounds that the definition has given.
type neighbourTable map[[impl.MaxColours + 1]int64]int64

// bound returns the neighbour bound of sizes, sentence by sentence as it is defined.
func (n neighbourTable) bound(sizes []int64) int64 {
	key := [impl.MaxColours + 1]int64{impl.MaxColours: int64(len(sizes))}
	copy(key[:], sizes)
	if _, ok := n[key]; !ok {
		n[key] = n.define(sizes)
	}
	return n[key]
}

// define is bound without the table.
func (n neighbourTable) define(sizes []int64) int64 {
	if slices.Contains(sizes, 1) {
		return 1
	}
	if slices.Contains(sizes, 2) {
		others := slices.DeleteFunc(slices.Clone(sizes), func(size int64) bool { return size == 2 })
		if len(others) == 0 {
			return 2
		}
		return n.bound(others)
	}
	if len(sizes) == 1 {
		return sizes[0]
	}
	var bounds []int64
	sum := int64(0)
	for place := range sizes {
		less := slices.Clone(sizes)
		less[place]--
		bounds = append(bounds, n.bound(less))
		sum += bounds[place]
	}
	bound := 2 - int64(len(sizes)) + sum
	if len(sizes) == 2 && bounds[0]%2 == 0 && bounds[1]%2 == 0 {
		bound--
	}
	return bound
}

// everyBoundedSizes calls a function with all lists of 1 to MaxColours sizes in 1..8.
func everyBoundedSizes(use func(sizes []int64)) {
	for k := int64(1); k <= impl.MaxColours; k++ {
		everySizes(k, []int64{1, 2, 3, 4, 5, 6, 7, 8}, use)
	}
}

func TestL08NeighbourBoundAgainstTheDefinition(t *testing.T) {
	table := neighbourTable{}
	everyBoundedSizes(func(sizes []int64) {
		bound, code := impl.NeighbourBound(sizes)
		if want := table.bound(sizes); want <= 1000000000 {
			wantNumber(t, "NeighbourBound", bound, code, want, impl.ErrNone)
		} else {
			wantNumber(t, "NeighbourBound greater than MaxBound", bound, code, 0, impl.ErrLimit)
		}
	})
}

// sizesCase has sizes and their neighbour bound, or 0 if it is greater than MaxBound.
type sizesCase struct {
	sizes []int64
	want  int64
}

// neighbourCases returns sizes of all kinds, ascending.
func neighbourCases() []sizesCase {
	return []sizesCase{
		{[]int64{1}, 1}, {[]int64{2}, 2}, {[]int64{3}, 3}, {[]int64{5}, 5}, {[]int64{8}, 8},
		// One or more of them 1, or 2, or all of them 2.
		{[]int64{1, 1}, 1}, {[]int64{1, 2}, 1}, {[]int64{1, 8}, 1}, {[]int64{1, 3, 5}, 1}, {[]int64{1, 1, 2, 8}, 1}, {[]int64{1, 8, 8, 8}, 1}, {[]int64{1, 1, 1, 1}, 1},
		{[]int64{2, 2}, 2}, {[]int64{2, 2, 2}, 2}, {[]int64{2, 2, 2, 2}, 2},
		{[]int64{2, 3}, 3}, {[]int64{2, 8}, 8}, {[]int64{2, 2, 7}, 7}, {[]int64{2, 2, 2, 8}, 8},
		// Without numbers 2 there are two sizes, and evenness counts.
		{[]int64{2, 3, 4}, 9}, {[]int64{2, 2, 3, 4}, 9}, {[]int64{2, 4, 4}, 18}, {[]int64{2, 2, 3, 6}, 19}, {[]int64{2, 3, 3, 3}, 17}, {[]int64{2, 4, 4, 4}, 254}, {[]int64{2, 8, 8, 8}, 51214802},
		// Both bounds are even.
		{[]int64{3, 4}, 9}, {[]int64{3, 6}, 19}, {[]int64{3, 8}, 33}, {[]int64{4, 6}, 50}, {[]int64{5, 8}, 293}, {[]int64{6, 7}, 407}, {[]int64{7, 8}, 1513},
		// They are not.
		{[]int64{3, 3}, 6}, {[]int64{3, 5}, 14}, {[]int64{3, 7}, 26}, {[]int64{4, 4}, 18}, {[]int64{4, 5}, 31}, {[]int64{4, 7}, 75}, {[]int64{5, 5}, 62}, {[]int64{5, 6}, 111}, {[]int64{6, 6}, 222}, {[]int64{8, 8}, 3026},
		// More sizes, where evenness does not count.
		{[]int64{3, 3, 3}, 17}, {[]int64{3, 3, 4}, 34}, {[]int64{3, 4, 4}, 85}, {[]int64{3, 4, 5}, 176}, {[]int64{4, 4, 4}, 254}, {[]int64{8, 8, 8}, 51214802},
		{[]int64{3, 3, 3, 3}, 66}, {[]int64{3, 3, 3, 4}, 166}, {[]int64{4, 4, 4, 4}, 7006},
		// Just at most, and greater than MaxBound.
		{[]int64{6, 6, 6, 7}, 614339758}, {[]int64{4, 6, 8, 8}, 751983016}, {[]int64{4, 7, 7, 8}, 898504514}, {[]int64{3, 8, 8, 8}, 960749844},
		{[]int64{5, 5, 8, 8}, 0}, {[]int64{5, 6, 7, 8}, 0}, {[]int64{5, 7, 7, 7}, 0}, {[]int64{6, 6, 6, 8}, 0}, {[]int64{4, 8, 8, 8}, 0}, {[]int64{8, 8, 8, 8}, 0},
	}
}

func TestL08NeighbourBound(t *testing.T) {
	for _, c := range neighbourCases() {
		wantCode := int64(impl.ErrNone)
		if c.want == 0 {
			wantCode = impl.ErrLimit
		}
		everyOrder(int64(len(c.sizes)), nil, func(order []int64) {
			var sizes []int64
			for _, place := range order {
				sizes = append(sizes, c.sizes[place])
			}
			bound, code := impl.NeighbourBound(sizes)
			wantNumber(t, "NeighbourBound", bound, code, c.want, wantCode)
		})
	}
}

func TestL08NeighbourBoundOfNoSizes(t *testing.T) {
	lists := [][]int64{nil, {}, {2, 2, 2, 2, 2}, {1, 1, 1, 1, 1}, {3, 3, 3, 3, 3}, {8, 8, 8, 8, 8}, make([]int64, 1000), slices.Repeat([]int64{1}, 1000)}
	for _, wrong := range outside(1, 8) {
		// What is outside is told before a size of 1, and before a bound that is too great.
		lists = append(lists, []int64{wrong}, []int64{wrong, 3}, []int64{3, wrong}, []int64{1, wrong}, []int64{wrong, 1}, []int64{2, 2, wrong}, []int64{1, 1, 1, wrong}, []int64{8, 8, 8, wrong}, []int64{wrong, 8, 8, 8}, []int64{8, wrong, 8, 8})
	}
	for _, list := range lists {
		bound, code := impl.NeighbourBound(list)
		wantNumber(t, "NeighbourBound of no sizes", bound, code, 0, impl.ErrRange)
	}
}

func TestL08NeighbourBoundReturnsSoon(t *testing.T) {
	soon(t, "NeighbourBound of four sizes 8", func() {
		for range 100 {
			bound, code := impl.NeighbourBound([]int64{8, 8, 8, 8})
			wantNumber(t, "NeighbourBound of four sizes 8", bound, code, 0, impl.ErrLimit)
			bound, code = impl.NeighbourBound([]int64{3, 8, 8, 8})
			wantNumber(t, "NeighbourBound of 3 and three sizes 8", bound, code, 960749844, impl.ErrNone)
		}
	})
}

func TestL08SizesStayAsTheyAre(t *testing.T) {
	x := named(t, "pentagon")
	for _, list := range [][]int64{nil, {3}, {3, 4}, {4, 3}, {8, 1, 7, 2}, {5, 4, 3}, {8, 8, 8, 8}, {3, 9}, {8, 7, 6, 5, 4}} {
		given := withSpare(list...)
		impl.NeighbourBound(given)
		impl.LowerBound(x, given)
		if !slices.Equal(given[:len(list)+3], append(slices.Clone(list), 77, 77, 77)) {
			t.Errorf("%v is changed to %v", list, given[:len(list)+3])
		}
	}
}

// isCounted reports whether twice the number of sets of m of n points is less than 2^(m (m - 1) / 2).
func isCounted(n int64, m int64) bool {
	sets := new(big.Int).Binomial(n, m)
	return sets.Lsh(sets, 1).Cmp(new(big.Int).Lsh(big.NewInt(1), uint(m*(m-1)/2))) < 0
}

func TestL08CountingBound(t *testing.T) {
	for place, want := range []int64{1, 3, 6, 11, 17, 27, 42, 65, 100} {
		m := int64(place) + 2
		bound, code := impl.CountingBound(m)
		wantNumber(t, "CountingBound", bound, code, want, impl.ErrNone)
		for n := m; n <= 300; n++ {
			if isCounted(n, m) != (n <= bound) {
				t.Errorf("CountingBound(%d) = %d is not the greatest n: see %d", m, bound, n)
			}
		}
	}
	for _, wrong := range outside(2, 10) {
		bound, code := impl.CountingBound(wrong)
		wantNumber(t, "CountingBound outside", bound, code, 0, impl.ErrRange)
	}
}

// Some colouring of as many points as the counting bound tells avoids m and m.
func TestL08CountingBoundsAreColoured(t *testing.T) {
	for m := int64(2); m <= 8; m++ {
		counted, _ := impl.CountingBound(m)
		bound, code := impl.NeighbourBound([]int64{m, m})
		if code != impl.ErrNone || counted >= bound {
			t.Errorf("CountingBound(%d) = %d, NeighbourBound is %d and %d", m, counted, bound, code)
		}
		if counted <= 8 {
			_, code = impl.FirstAvoiding(counted, []int64{m, m})
			wantNumber(t, "FirstAvoiding of the counting bound", counted, code, counted, impl.ErrNone)
		}
	}
}

// knownByDefinition returns the known number of sizes, and its code.
func knownByDefinition(a int64, b int64) (int64, int64) {
	known := map[[2]int64]int64{{3, 3}: 6, {3, 4}: 9, {4, 3}: 9, {3, 5}: 14, {5, 3}: 14, {4, 4}: 18}
	switch {
	case a == 1 || b == 1:
		return 1, impl.ErrNone
	case a == 2:
		return b, impl.ErrNone
	case b == 2:
		return a, impl.ErrNone
	case known[[2]int64{a, b}] > 0:
		return known[[2]int64{a, b}], impl.ErrNone
	}
	return 0, impl.ErrNotFound
}

func TestL08KnownNumber(t *testing.T) {
	everyTwo(1, 17, func(a int64, b int64) {
		number, code := impl.KnownNumber(a, b)
		want, wantCode := knownByDefinition(a, b)
		wantNumber(t, "KnownNumber", number, code, want, wantCode)
	})
	wantPairCases(t, "KnownNumber", impl.KnownNumber, []pairCase{
		{1, 1, 1}, {1, 2, 1}, {1, 3, 1}, {1, 17, 1}, {2, 2, 2}, {2, 3, 3}, {2, 17, 17}, {3, 3, 6}, {3, 4, 9}, {3, 5, 14}, {4, 4, 18},
	})
	for _, pair := range [][2]int64{{3, 6}, {6, 3}, {4, 5}, {5, 4}, {5, 5}, {3, 17}, {17, 3}, {17, 17}} {
		number, code := impl.KnownNumber(pair[0], pair[1])
		wantNumber(t, "KnownNumber of none of those told", number, code, 0, impl.ErrNotFound)
	}
	wantOutside(t, "KnownNumber", impl.KnownNumber, 1, 17)
}

// Promise 8: known numbers are at most neighbour bounds.
func TestL08KnownNumbersAreAtMostNeighbourBounds(t *testing.T) {
	checked := 0
	everyTwo(1, 8, func(a int64, b int64) {
		bound, code := impl.NeighbourBound([]int64{a, b})
		number, knownCode := impl.KnownNumber(a, b)
		if knownCode != impl.ErrNone {
			return
		}
		checked++
		if code != impl.ErrNone || number > bound {
			t.Errorf("KnownNumber(%d, %d) = %d, NeighbourBound is %d and %d", a, b, number, bound, code)
		}
	})
	// 15 pairs with a 1, 13 more with a 2, and 6 others.
	if checked != 34 {
		t.Errorf("%d known numbers are compared", checked)
	}
}

// Known numbers are Ramsey numbers: just below them a colouring avoids the sizes, at them none does.
func TestL08KnownNumbersAreRamseyNumbers(t *testing.T) {
	for _, c := range []struct {
		name string
		a, b int64
	}{{"pentagon", 3, 3}, {"eight", 3, 4}, {"thirteen", 3, 5}, {"seventeen", 4, 4}} {
		number, _ := impl.KnownNumber(c.a, c.b)
		lower, code := impl.LowerBound(named(t, c.name), []int64{c.a, c.b})
		wantNumber(t, "LowerBound of a named colouring", lower, code, number, impl.ErrNone)
	}
	everyTwo(1, 8, func(a int64, b int64) {
		number, code := impl.KnownNumber(a, b)
		if code == impl.ErrNone && number <= 8 {
			_, code = impl.FirstAvoiding(number, []int64{a, b})
			wantNumber(t, "FirstAvoiding of the known number", 0, code, 0, impl.ErrNotFound)
		}
		if code != impl.ErrNone || number == 1 || number > 9 {
			return
		}
		_, code = impl.FirstAvoiding(number-1, []int64{a, b})
		wantNumber(t, "FirstAvoiding below the known number", 0, code, 0, impl.ErrNone)
	})
}

// The guarantee of the chapter: neighbour bounds are at most binomial bounds for two colours.
func TestL08NeighbourBoundsAreAtMostBinomialBounds(t *testing.T) {
	everyTwo(1, 8, func(a int64, b int64) {
		bound, code := impl.NeighbourBound([]int64{a, b})
		binomial, binomialCode := impl.BinomialBound(a, b)
		if code != impl.ErrNone || binomialCode != impl.ErrNone || bound > binomial {
			t.Errorf("NeighbourBound of %d and %d is %d, BinomialBound %d", a, b, bound, binomial)
		}
	})
}

func TestL08PathNumber(t *testing.T) {
	for a := int64(2); a <= 1000; a++ {
		for b := int64(2); b <= a; b++ {
			half := int64(0)
			for 2*(half+1) <= b {
				half++
			}
			number, code := impl.PathNumber(a, b)
			other, otherCode := impl.PathNumber(b, a)
			if number != a+half-1 || other != number || code != impl.ErrNone || otherCode != impl.ErrNone {
				t.Fatalf("PathNumber of %d and %d is %d and %d", a, b, number, other)
			}
		}
	}
	wantPairCases(t, "PathNumber", impl.PathNumber, []pairCase{
		{2, 2, 2}, {3, 2, 3}, {3, 3, 3}, {4, 3, 4}, {4, 4, 5}, {5, 4, 6}, {5, 5, 6}, {10, 7, 12}, {10, 8, 13}, {1000, 2, 1000}, {1000, 3, 1000}, {1000, 999, 1498}, {1000, 1000, 1499}, {999, 999, 1497},
	})
	wantOutside(t, "PathNumber", impl.PathNumber, 2, 1000)
}

func TestL08StarNumber(t *testing.T) {
	everyTwo(1, 1000, func(a int64, b int64) {
		want := a + b
		if (a+b)%2 == 0 && a*b%2 == 0 {
			want--
		}
		if number, code := impl.StarNumber(a, b); number != want || code != impl.ErrNone {
			t.Fatalf("StarNumber of %d and %d is %d and %d", a, b, number, code)
		}
	})
	wantPairCases(t, "StarNumber", impl.StarNumber, []pairCase{
		{1, 1, 2}, {1, 2, 3}, {2, 2, 3}, {2, 3, 5}, {3, 3, 6}, {4, 2, 5}, {4, 3, 7}, {5, 3, 8}, {1, 1000, 1001}, {2, 1000, 1001}, {999, 999, 1998}, {999, 1000, 1999}, {1000, 1000, 1999},
	})
	wantOutside(t, "StarNumber", impl.StarNumber, 1, 1000)
}

func TestL08MatchingNumber(t *testing.T) {
	for a := int64(1); a <= 1000; a++ {
		for b := int64(1); b <= a; b++ {
			number, code := impl.MatchingNumber(a, b)
			other, otherCode := impl.MatchingNumber(b, a)
			if number != 2*a+b-1 || other != number || code != impl.ErrNone || otherCode != impl.ErrNone {
				t.Fatalf("MatchingNumber of %d and %d is %d and %d", a, b, number, other)
			}
		}
	}
	wantPairCases(t, "MatchingNumber", impl.MatchingNumber, []pairCase{
		{1, 1, 2}, {2, 1, 4}, {2, 2, 5}, {3, 1, 6}, {3, 2, 7}, {3, 3, 8}, {1000, 1, 2000}, {1000, 999, 2998}, {1000, 1000, 2999},
	})
	wantOutside(t, "MatchingNumber", impl.MatchingNumber, 1, 1000)
}

func TestL08TriangleBound(t *testing.T) {
	for place, want := range []int64{3, 6, 17, 66, 327, 1958, 13701, 109602, 986411, 9864102} {
		k := int64(place) + 1
		bound, code := impl.TriangleBound(k)
		wantNumber(t, "TriangleBound", bound, code, want, impl.ErrNone)
		if k <= impl.MaxColours {
			neighbour, code := impl.NeighbourBound(sameNumber(k, 3))
			wantNumber(t, "NeighbourBound of sizes 3", neighbour, code, bound, impl.ErrNone)
		}
	}
	for _, wrong := range outside(1, 10) {
		bound, code := impl.TriangleBound(wrong)
		wantNumber(t, "TriangleBound outside", bound, code, 0, impl.ErrRange)
	}
}

// found has, for both of two colours, the points of a longest path, the rays of a greatest star and
// the edges of a greatest matching.
type found struct {
	paths, stars, matchings [2]int64
}

// foundIn returns what there is in a colouring with two colours, of at most MaxPattern points.
func foundIn(x impl.Colouring) found {
	var f found
	for c := range int64(2) {
		path, _ := impl.LongestPath(x, c)
		_, rays, _ := impl.GreatestStar(x, c)
		matching, _ := impl.GreatestMatching(x, c)
		f.paths[c], f.stars[c], f.matchings[c] = int64(len(path)), rays, int64(len(matching))
	}
	return f
}

// wantOneOf checks that one of both colours has as much as is told, for all pairs whose number is
// just that of the points.
func wantOneOf(t *testing.T, what string, call pairCall, x impl.Colouring, least int64, greatest [2]int64) {
	t.Helper()
	everyTwo(least, 11, func(a int64, b int64) {
		number, _ := call(a, b)
		if number == x.Points && greatest[0] < a && greatest[1] < b {
			t.Errorf("%s of %d and %d is %d, but %v has only %v", what, a, b, number, x, greatest)
		}
	})
}

// wantPatterns checks that there is a path, a star or a matching in a colouring.
func wantPatterns(t *testing.T, x impl.Colouring) {
	t.Helper()
	f := foundIn(x)
	wantOneOf(t, "PathNumber", impl.PathNumber, x, 2, f.paths)
	wantOneOf(t, "StarNumber", impl.StarNumber, x, 1, f.stars)
	wantOneOf(t, "MatchingNumber", impl.MatchingNumber, x, 1, f.matchings)
}

// The guarantee of the chapter: colourings of as many points as told have a path, a star or a
// matching.
func TestL08ColouringsHavePatterns(t *testing.T) {
	for n := int64(2); n <= 5; n++ {
		everyColouring(n, func(x impl.Colouring) { wantPatterns(t, x) })
	}
	for n := int64(6); n <= impl.MaxPattern; n++ {
		for seed := range uint64(10) {
			wantPatterns(t, mixed(n, 2, seed))
		}
		for first := int64(1); first < n; first++ {
			wantPatterns(t, inGroups(first, n-first))
			wantPatterns(t, byRule(n, 2, byCircle(n, first, n-first)))
		}
	}
}

// block returns a colouring of n points in which the first ones are a clique of the colour 0, and all
// other edges have the colour 1.
func block(n int64, first int64) impl.Colouring {
	return byRule(n, 2, func(_ int64, j int64) int64 {
		if j < first {
			return 0
		}
		return 1
	})
}

// round returns a colouring of n points in which each point has a - 1 edges of the colour 0.
func round(n int64, a int64) impl.Colouring {
	return byRule(n, 2, func(i int64, j int64) int64 {
		steps := stepsBetween(n, i, j)
		if steps <= (a-1)/2 || a%2 == 0 && 2*steps == n {
			return 0
		}
		return 1
	})
}

// One point fewer than told is too few: a colouring has neither of the patterns.
func TestL08PatternNumbersAreTheLeast(t *testing.T) {
	everyTwo(1, 12, func(a int64, b int64) {
		if n, code := impl.PathNumber(a, b); a >= b && b > 1 && n-1 <= impl.MaxPattern {
			f := foundIn(block(n-1, a-1))
			if code != impl.ErrNone || f.paths[0] >= a || f.paths[1] >= b {
				t.Errorf("PathNumber of %d and %d is %d, but %d points have %v", a, b, n, n-1, f.paths)
			}
		}
		if n, code := impl.StarNumber(a, b); n-1 <= impl.MaxPattern {
			f := foundIn(round(n-1, a))
			if code != impl.ErrNone || f.stars[0] >= a || f.stars[1] >= b {
				t.Errorf("StarNumber of %d and %d is %d, but %d points have %v", a, b, n, n-1, f.stars)
			}
		}
		if n, code := impl.MatchingNumber(a, b); a >= b && n-1 <= impl.MaxPattern {
			f := foundIn(block(n-1, 2*a-1))
			if code != impl.ErrNone || f.matchings[0] >= a || f.matchings[1] >= b {
				t.Errorf("MatchingNumber of %d and %d is %d, but %d points have %v", a, b, n, n-1, f.matchings)
			}
		}
	})
}

// sizesAbout returns lists of sizes that are not avoided, or just avoided.
func sizesAbout(numbers []int64) [][]int64 {
	lists := [][]int64{sameNumber(int64(len(numbers)), 1), sameNumber(int64(len(numbers)), 17)}
	for place := -1; place < len(numbers); place++ {
		avoided := slices.Clone(numbers)
		for c := range avoided {
			if c != place && avoided[c] < 17 {
				avoided[c]++
			}
		}
		lists = append(lists, avoided)
	}
	return lists
}

func TestL08LowerBoundAgainstTheDefinition(t *testing.T) {
	everyCliqueCase(func(x impl.Colouring) {
		numbers := numbersByDefinition(x)
		for _, sizes := range sizesAbout(numbers) {
			bound, code := impl.LowerBound(x, sizes)
			if areLess(numbers, sizes) {
				wantNumber(t, "LowerBound", bound, code, x.Points+1, impl.ErrNone)
			} else {
				wantNumber(t, "LowerBound of sizes that are not avoided", bound, code, 0, impl.ErrState)
			}
		}
	})
}

// lowerCase has a colouring, sizes, and the bound, or 0 if they are not avoided.
type lowerCase struct {
	x     impl.Colouring
	sizes []int64
	want  int64
}

func TestL08LowerBound(t *testing.T) {
	for _, c := range []lowerCase{
		{oneColour(1, 1, 0), []int64{2}, 2}, {oneColour(1, 1, 0), []int64{1}, 0}, {oneColour(1, 4, 0), []int64{2, 2, 2, 2}, 2}, {oneColour(1, 4, 0), []int64{17, 2, 2, 1}, 0},
		{oneColour(17, 1, 0), []int64{17}, 0}, {oneColour(17, 2, 1), []int64{2, 17}, 0}, {oneColour(16, 1, 0), []int64{17}, 17}, {oneColour(16, 2, 1), []int64{2, 17}, 17},
		{named(t, "pentagon"), []int64{3, 3}, 6}, {named(t, "pentagon"), []int64{3, 2}, 0}, {named(t, "pentagon"), []int64{2, 3}, 0},
		{named(t, "eight"), []int64{3, 4}, 9}, {named(t, "eight"), []int64{4, 3}, 0}, {named(t, "thirteen"), []int64{3, 5}, 14}, {named(t, "thirteen"), []int64{5, 3}, 0},
		{named(t, "sixteen"), []int64{3, 3, 3}, 17}, {named(t, "sixteen"), []int64{3, 3, 2}, 0},
		{named(t, "seventeen"), []int64{4, 4}, 18}, {named(t, "seventeen"), []int64{4, 3}, 0}, {named(t, "seventeen"), []int64{17, 17}, 18},
	} {
		wantCode := int64(impl.ErrNone)
		if c.want == 0 {
			wantCode = impl.ErrState
		}
		bound, code := impl.LowerBound(c.x, c.sizes)
		wantNumber(t, "LowerBound", bound, code, c.want, wantCode)
	}
}

// A list that is no sizes is told before sizes that are not avoided, and after what is no colouring.
func TestL08LowerBoundErrors(t *testing.T) {
	for k := int64(1); k <= impl.MaxColours; k++ {
		for _, n := range []int64{1, 2, 5, 17} {
			x := mixed(n, k, 2)
			lists := append(wrongSizes(), sameNumber(k-1, 3), sameNumber(k+1, 3), sameNumber(k-1, 1), sameNumber(k+1, 17))
			for _, wrong := range outside(1, 17) {
				for place := range k {
					list, high := sameNumber(k, 1), sameNumber(k, 17)
					list[place], high[place] = wrong, wrong
					lists = append(lists, list, high)
				}
			}
			for _, list := range lists {
				bound, code := impl.LowerBound(x, list)
				wantNumber(t, "LowerBound of no sizes", bound, code, 0, impl.ErrRange)
			}
		}
	}
	for what, x := range wrongColourings() {
		for _, list := range append(wrongSizes(), []int64{3}, []int64{1, 1}, []int64{17, 17}, []int64{3, 3, 3}, []int64{17, 17, 17, 17}) {
			bound, code := impl.LowerBound(x, list)
			wantNumber(t, "LowerBound of "+what, bound, code, 0, impl.ErrInvalid)
		}
	}
}

// Promise 12: lower bounds of colourings that avoid sizes are at most neighbour bounds.
func TestL08LowerBoundsAreAtMostNeighbourBounds(t *testing.T) {
	checked := 0
	check := func(x impl.Colouring) {
		numbers := numbersByDefinition(x)
		for _, sizes := range sizesAbout(numbers) {
			lower, code := impl.LowerBound(x, sizes)
			bound, boundCode := impl.NeighbourBound(sizes)
			if code != impl.ErrNone || boundCode != impl.ErrNone {
				continue
			}
			checked++
			if lower > bound {
				t.Errorf("LowerBound of %v and %v is %d, NeighbourBound %d", x, sizes, lower, bound)
			}
		}
	}
	for n := int64(1); n <= 5; n++ {
		everyColouring(n, check)
	}
	everyShape(check)
	for _, name := range []string{"pentagon", "eight", "thirteen", "sixteen", "seventeen"} {
		check(named(t, name))
	}
	for k := int64(1); k <= impl.MaxColours; k++ {
		for n := int64(1); n <= 7; n++ {
			check(oneColour(n, k, byte(k-1)))
		}
	}
	if checked < 1000 {
		t.Errorf("only %d lower bounds are compared", checked)
	}
}

// productByDefinition returns the product of two colourings, from all pairs of pairs of points.
func productByDefinition(x impl.Colouring, y impl.Colouring) impl.Colouring {
	m := y.Points
	product := impl.Colouring{Points: x.Points * m, Colours: x.Colours + y.Colours}
	for i := range x.Points {
		for other := range x.Points {
			for j := range m {
				for otherJ := range m {
					low, high := m*i+j, m*other+otherJ
					if low >= high {
						continue
					}
					colour := byte(0)
					if i != other {
						colour = byte(colourIn(x, i, other))
					} else {
						colour = byte(x.Colours + colourIn(y, j, otherJ))
					}
					product.Edges[high*(high-1)/2+low] = colour
				}
			}
		}
	}
	return product
}

// everyFactor calls a function with two colourings of all shapes, also with those that are too great
// for a product.
func everyFactor(use func(x impl.Colouring, y impl.Colouring)) {
	everyTwo(1, 17, func(n int64, m int64) {
		everyTwo(1, 4, func(k int64, l int64) {
			use(mixed(n, k, uint64(m)), mixed(m, l, uint64(n+k)))
			use(oneColour(n, k, byte(k-1)), oneColour(m, l, 0))
		})
	})
}

func TestL08ProductAgainstTheDefinition(t *testing.T) {
	everyFactor(func(x impl.Colouring, y impl.Colouring) {
		product, code := impl.ProductColouring(x, y)
		if x.Points*y.Points > 17 || x.Colours+y.Colours > 4 {
			wantSame(t, "ProductColouring of too many", product, code, impl.Colouring{}, impl.ErrLimit)
			return
		}
		wantSame(t, "ProductColouring", product, code, productByDefinition(x, y), impl.ErrNone)
		if !impl.IsColouring(product) {
			t.Errorf("ProductColouring returns %v, which is no colouring", product)
		}
	})
}

// Promise 8: products avoid the sizes of both.
func TestL08ProductsAvoidTheSizesOfBoth(t *testing.T) {
	everyFactor(func(x impl.Colouring, y impl.Colouring) {
		product, code := impl.ProductColouring(x, y)
		if code != impl.ErrNone {
			return
		}
		numbers := slices.Concat(numbersByDefinition(x), numbersByDefinition(y))
		sizes := slices.Clone(numbers)
		for c := range sizes {
			sizes[c] = min(sizes[c]+1, 17)
		}
		// Only 17 points of one colour have no sizes to avoid.
		avoids, code := impl.AvoidsSizes(product, sizes)
		wantBool(t, "AvoidsSizes of a product", avoids, code, areLess(numbers, sizes), impl.ErrNone)
		// And no lesser ones.
		productNumbers, code := impl.CliqueNumbers(product)
		wantList(t, "CliqueNumbers of a product", productNumbers, code, numbers, impl.ErrNone)
	})
}

// productCase has the texts of two colourings and of their product.
type productCase struct{ x, y, product string }

func TestL08Products(t *testing.T) {
	for _, c := range []productCase{
		{"1,1:", "1,1:", "1,2:"}, {"1,2:", "1,2:", "1,4:"}, {"1,1:", "1,3:", "1,4:"},
		// One point on either side.
		{"1,1:", "3,2:0,10", "3,3:1,21"}, {"1,2:", "3,2:0,10", "3,4:2,32"}, {"3,2:0,10", "1,1:", "3,3:0,10"}, {"3,2:0,10", "1,2:", "3,4:0,10"}, {"3,3:0,12", "1,1:", "3,4:0,12"},
		// The order of both, the first edge and the last one.
		{"2,2:1", "2,1:0", "4,3:2,11,112"}, {"2,1:0", "2,2:1", "4,3:2,00,002"}, {"2,2:0", "2,2:1", "4,4:3,00,003"}, {"2,2:1", "2,2:0", "4,4:2,11,112"},
		{"3,2:0,01", "2,2:1", "6,4:3,00,003,0011,00113"}, {"2,2:1", "3,2:0,01", "6,4:2,23,111,1112,11123"},
	} {
		product, code := impl.ProductColouring(parsed(t, c.x), parsed(t, c.y))
		wantSame(t, "ProductColouring of "+c.x+" and "+c.y, product, code, parsed(t, c.product), impl.ErrNone)
	}
}

func TestL08ProductLimits(t *testing.T) {
	for _, c := range []struct{ n, m, k, l, code int64 }{
		{17, 1, 1, 1, impl.ErrNone}, {1, 17, 1, 1, impl.ErrNone}, {8, 2, 1, 1, impl.ErrNone}, {2, 8, 1, 1, impl.ErrNone}, {4, 4, 2, 2, impl.ErrNone}, {17, 1, 3, 1, impl.ErrNone}, {1, 17, 1, 3, impl.ErrNone},
		{9, 2, 1, 1, impl.ErrLimit}, {2, 9, 1, 1, impl.ErrLimit}, {6, 3, 1, 1, impl.ErrLimit}, {3, 6, 1, 1, impl.ErrLimit}, {17, 2, 1, 1, impl.ErrLimit}, {17, 17, 1, 1, impl.ErrLimit},
		{1, 1, 4, 1, impl.ErrLimit}, {1, 1, 1, 4, impl.ErrLimit}, {1, 1, 2, 3, impl.ErrLimit}, {1, 1, 3, 2, impl.ErrLimit}, {1, 1, 4, 4, impl.ErrLimit}, {9, 2, 4, 1, impl.ErrLimit},
	} {
		x, y := mixed(c.n, c.k, 4), mixed(c.m, c.l, 5)
		want := impl.Colouring{}
		if c.code == impl.ErrNone {
			want = productByDefinition(x, y)
		}
		product, code := impl.ProductColouring(x, y)
		wantSame(t, "ProductColouring at a limit", product, code, want, c.code)
	}
	// The edges with the least and the greatest number.
	product, _ := impl.ProductColouring(oneColour(17, 3, 2), oneColour(1, 1, 0))
	if product.Edges[0] != 2 || product.Edges[135] != 2 {
		t.Errorf("ProductColouring of 17 points and 1 is %v", product)
	}
	product, _ = impl.ProductColouring(oneColour(1, 3, 0), oneColour(17, 1, 0))
	if product.Edges[0] != 3 || product.Edges[135] != 3 {
		t.Errorf("ProductColouring of 1 point and 17 is %v", product)
	}
}

// What is no colouring is told before what is too much.
func TestL08ProductsOfNoColourings(t *testing.T) {
	right := []impl.Colouring{oneColour(1, 1, 0), mixed(3, 2, 1), mixed(17, 1, 1), mixed(17, 4, 1), mixed(1, 4, 1)}
	for what, x := range wrongColourings() {
		for _, y := range right {
			product, code := impl.ProductColouring(x, y)
			wantSame(t, "ProductColouring of "+what, product, code, impl.Colouring{}, impl.ErrInvalid)
			product, code = impl.ProductColouring(y, x)
			wantSame(t, "ProductColouring with "+what, product, code, impl.Colouring{}, impl.ErrInvalid)
		}
		for _, y := range wrongColourings() {
			product, code := impl.ProductColouring(x, y)
			wantSame(t, "ProductColouring of twice "+what, product, code, impl.Colouring{}, impl.ErrInvalid)
		}
	}
}

// What one call could not find must not show in the next one.
func TestL08NoStateIsKept(t *testing.T) {
	for range 3 {
		wantOutside(t, "BinomialBound", impl.BinomialBound, 1, 16)
		bound, code := impl.BinomialBound(3, 4)
		wantNumber(t, "BinomialBound after an error", bound, code, 10, impl.ErrNone)
		impl.NeighbourBound([]int64{8, 8, 8, 8})
		impl.NeighbourBound([]int64{3, 9})
		bound, code = impl.NeighbourBound([]int64{3, 4})
		wantNumber(t, "NeighbourBound after errors", bound, code, 9, impl.ErrNone)
		impl.KnownNumber(9, 9)
		bound, code = impl.KnownNumber(5, 3)
		wantNumber(t, "KnownNumber after an error", bound, code, 14, impl.ErrNone)
		impl.TriangleBound(11)
		bound, code = impl.TriangleBound(4)
		wantNumber(t, "TriangleBound after an error", bound, code, 66, impl.ErrNone)
	}
}
