package tests

import (
	"math"
	"math/bits"
	"slices"
	"testing"

	"loop.example/g01362/impl"
)

// beginningNumbers returns, for m from 0 to n, the greatest number of points of a clique of a colour
// among the first m points, from a look at every set of points.
func beginningNumbers(x impl.Colouring, c int64) []int64 {
	isClique := make([]bool, 1<<x.Points)
	isClique[0] = true
	numbers := make([]int64, x.Points+1)
	for set := 1; set < len(isClique); set++ {
		last := bits.Len(uint(set)) - 1
		rest := set &^ (1 << last)
		isClique[set] = isClique[rest] && rest&^nearSet(x, c, int64(last)) == 0
		if isClique[set] {
			numbers[last+1] = max(numbers[last+1], int64(bits.OnesCount(uint(set))))
		}
	}
	for m := range x.Points {
		numbers[m+1] = max(numbers[m+1], numbers[m])
	}
	return numbers
}

// numbersByDefinition returns for each colour the greatest number of points of a clique.
func numbersByDefinition(x impl.Colouring) []int64 {
	var numbers []int64
	for c := range x.Colours {
		numbers = append(numbers, beginningNumbers(x, c)[x.Points])
	}
	return numbers
}

// areLess reports whether each number is less than the size at its place.
func areLess(numbers []int64, sizes []int64) bool {
	for c, size := range sizes {
		if numbers[c] >= size {
			return false
		}
	}
	return true
}

// putIn returns a colouring with a point put in, by the definition alone.
func putIn(x impl.Colouring, colours []int64) impl.Colouring {
	for i, c := range colours {
		x.Edges[x.Points*(x.Points-1)/2+int64(i)] = byte(c)
	}
	x.Points++
	return x
}

// everyList calls a function with all lists of a length with numbers in 0..k - 1, in lexicographic
// order.
func everyList(length int64, k int64, use func(list []int64)) {
	list := make([]int64, length)
	for {
		use(list)
		place := length - 1
		for place >= 0 && list[place] == k-1 {
			list[place] = 0
			place--
		}
		if place < 0 {
			return
		}
		list[place]++
	}
}

// everySizes calls a function with all sizes for k colours out of some numbers.
func everySizes(k int64, from []int64, use func(sizes []int64)) {
	everyList(k, int64(len(from)), func(list []int64) {
		var sizes []int64
		for _, place := range list {
			sizes = append(sizes, from[place])
		}
		use(sizes)
	})
}

// putCase has a list of colours, and the clique numbers of a colouring with a point put in with it.
type putCase struct {
	colours []int64
	numbers []int64
}

// putCases returns all lists of colours for a point put in, in order.
func putCases(x impl.Colouring) []putCase {
	var cases []putCase
	everyList(x.Points, x.Colours, func(list []int64) {
		cases = append(cases, putCase{slices.Clone(list), numbersByDefinition(putIn(x, list))})
	})
	return cases
}

// extensionsOf returns the lists of colours with which the sizes are avoided.
func extensionsOf(cases []putCase, sizes []int64) [][]int64 {
	var found [][]int64
	for _, one := range cases {
		if areLess(one.numbers, sizes) {
			found = append(found, one.colours)
		}
	}
	return found
}

// checkExtensions compares what is told of the extensions of a colouring that avoids sizes with a
// list of all of them.
func checkExtensions(t *testing.T, x impl.Colouring, sizes []int64, want [][]int64) {
	t.Helper()
	count, code := impl.CountExtensions(x, sizes)
	wantNumber(t, "CountExtensions", count, code, int64(len(want)), impl.ErrNone)
	first, code := impl.FirstExtension(x, sizes)
	if len(want) > 0 {
		wantList(t, "FirstExtension", first, code, want[0], impl.ErrNone)
	} else {
		wantList(t, "FirstExtension", first, code, nil, impl.ErrNotFound)
	}
	list, code := impl.ExtensionList(x, sizes)
	wantLists(t, "ExtensionList", list, code, want)
	degrees := make([]int64, x.Points+1)
	for _, colours := range want {
		zeros := 0
		for _, c := range colours {
			if c == 0 {
				zeros++
			}
		}
		degrees[zeros]++
	}
	counts, code := impl.ExtensionsByDegree(x, sizes)
	wantList(t, "ExtensionsByDegree", counts, code, degrees, impl.ErrNone)
	closed, code := impl.IsClosed(x, sizes)
	wantBool(t, "IsClosed", closed, code, len(want) == 0, impl.ErrNone)
}

// checkNoExtensions checks that extensions are told of no colouring that does not avoid the sizes.
func checkNoExtensions(t *testing.T, x impl.Colouring, sizes []int64) {
	t.Helper()
	is, code := impl.IsExtension(x, sizes, sameNumber(x.Points, 0))
	wantBool(t, "IsExtension, not avoided", is, code, false, impl.ErrState)
	count, code := impl.CountExtensions(x, sizes)
	wantNumber(t, "CountExtensions, not avoided", count, code, 0, impl.ErrState)
	first, code := impl.FirstExtension(x, sizes)
	wantList(t, "FirstExtension, not avoided", first, code, nil, impl.ErrState)
	list, code := impl.ExtensionList(x, sizes)
	wantNumber(t, "ExtensionList, not avoided", int64(len(list)), code, 0, impl.ErrState)
	counts, code := impl.ExtensionsByDegree(x, sizes)
	wantList(t, "ExtensionsByDegree, not avoided", counts, code, nil, impl.ErrState)
	changes, code := impl.FreeChanges(x, sizes)
	wantNumber(t, "FreeChanges, not avoided", int64(len(changes)), code, 0, impl.ErrState)
	// What is closed avoids the sizes by its definition: no error, but no.
	closed, code := impl.IsClosed(x, sizes)
	wantBool(t, "IsClosed, not avoided", closed, code, false, impl.ErrNone)
}

// checkEveryExtension compares all functions of extensions with the definitions, for sizes out of
// some numbers.
func checkEveryExtension(t *testing.T, x impl.Colouring, from []int64) {
	t.Helper()
	numbers, cases := numbersByDefinition(x), putCases(x)
	everySizes(x.Colours, from, func(sizes []int64) {
		if !areLess(numbers, sizes) {
			checkNoExtensions(t, x, sizes)
			return
		}
		checkExtensions(t, x, sizes, extensionsOf(cases, sizes))
		for _, one := range cases {
			is, code := impl.IsExtension(x, sizes, one.colours)
			wantBool(t, "IsExtension", is, code, areLess(one.numbers, sizes), impl.ErrNone)
		}
	})
}

func TestL05EveryColouringOfFewPoints(t *testing.T) {
	for n := int64(1); n <= 4; n++ {
		everyColouring(n, func(x impl.Colouring) { checkEveryExtension(t, x, []int64{1, 2, 3, 4, 5, 17}) })
	}
}

func TestL05AgainstTheDefinition(t *testing.T) {
	most := []int64{0, 8, 8, 5, 4} // points, by the number of colours
	from := [][]int64{nil, {1, 2, 3, 4, 5, 9, 10, 17}, {1, 2, 3, 4, 5, 6, 17}, {1, 2, 3, 4, 17}, {1, 2, 3, 17}}
	for k := int64(1); k <= impl.MaxColours; k++ {
		for n := int64(1); n <= most[k]; n++ {
			for seed := range uint64(2) {
				checkEveryExtension(t, mixed(n, k, seed), from[k])
			}
			for c := range k {
				if n <= 5 {
					checkEveryExtension(t, oneColour(n, k, byte(c)), from[k])
				}
			}
		}
	}
	for _, name := range []string{"pentagon", "eight"} {
		checkEveryExtension(t, named(t, name), from[2])
	}
}

func TestL05Examples(t *testing.T) {
	pentagon := named(t, "pentagon")
	checkExtensions(t, pentagon, []int64{3, 3}, nil)
	checkExtensions(t, named(t, "eight"), []int64{3, 4}, nil)
	checkExtensions(t, parsed(t, "2,2:0"), []int64{3, 3}, [][]int64{{0, 1}, {1, 0}, {1, 1}})
	checkExtensions(t, parsed(t, "4,2:0,10,110"), []int64{3, 3}, [][]int64{{0, 1, 1, 0}})
	// With one colour there is one list, and no other one.
	checkExtensions(t, parsed(t, "4,1:0,00,000"), []int64{6}, [][]int64{{0, 0, 0, 0}})
	checkExtensions(t, parsed(t, "4,1:0,00,000"), []int64{5}, nil)
	// The last list of all is the only one.
	checkExtensions(t, parsed(t, "3,4:3,33"), []int64{2, 2, 2, 17}, [][]int64{{3, 3, 3}})
	checkExtensions(t, parsed(t, "1,4:"), []int64{2, 3, 17, 2}, [][]int64{{1}, {2}})
	checkExtensions(t, parsed(t, "1,1:"), []int64{2}, nil)
	checkExtensions(t, parsed(t, "1,2:"), []int64{2, 2}, nil)
	for _, sizes := range [][]int64{{1, 1}, {1, 17}, {17, 1}, {2, 2}, {2, 3}, {3, 2}, {2, 17}, {17, 2}} {
		checkNoExtensions(t, pentagon, sizes)
	}
	checkNoExtensions(t, parsed(t, "1,4:"), []int64{2, 2, 2, 1})
}

// everySized calls a function with colourings of all shapes of at most some points, and sizes that
// they avoid by one point or by more, or do not avoid.
func everySized(most int64, use func(x impl.Colouring, sizes []int64)) {
	everyShape(func(x impl.Colouring) {
		if x.Points > most {
			return
		}
		tight := numbersByDefinition(x)
		for c := range tight {
			tight[c] = min(tight[c]+1, impl.MaxPoints)
		}
		use(x, tight)
		use(x, sameNumber(x.Colours, 3))
		use(x, sameNumber(x.Colours, impl.MaxPoints))
		for seed := range uint64(4) {
			sizes := slices.Clone(tight)
			for c := range sizes {
				sizes[c] = min(sizes[c]+mixedList(3, seed*7+uint64(c))[0], impl.MaxPoints)
			}
			use(x, sizes)
		}
	})
}

// Promise 5: extensions put in avoid sizes, and colourings that are closed have none.
func TestL05ExtensionsPutInAvoidSizes(t *testing.T) {
	everySized(12, func(x impl.Colouring, sizes []int64) {
		closed, code := impl.IsClosed(x, sizes)
		count, countCode := impl.CountExtensions(x, sizes)
		if code != impl.ErrNone || closed != (countCode == impl.ErrNone && count == 0) {
			t.Errorf("IsClosed(%v, %v) = %v, %d, with %d extensions", x, sizes, closed, code, count)
		}
		first, code := impl.FirstExtension(x, sizes)
		if closed {
			wantList(t, "FirstExtension, closed", first, code, nil, impl.ErrNotFound)
			list, code := impl.ExtensionList(x, sizes)
			wantLists(t, "ExtensionList, closed", list, code, nil)
			return
		}
		if code == impl.ErrState {
			return
		}
		list, listCode := impl.ExtensionList(x, sizes)
		if listCode == impl.ErrLimit {
			list = [][]int64{first}
		} else if listCode != impl.ErrNone || int64(len(list)) != count || !slices.Equal(list[0], first) {
			t.Errorf("ExtensionList(%v, %v) = %v, %d; the first one is %v", x, sizes, list, listCode, first)
		}
		for _, colours := range list {
			y, code := impl.PutPoint(x, colours)
			avoids, avoidsCode := impl.AvoidsSizes(y, sizes)
			if code != impl.ErrNone || avoidsCode != impl.ErrNone || !avoids {
				t.Errorf("%v with %v put in does not avoid %v", x, colours, sizes)
			}
			is, code := impl.IsExtension(x, sizes, colours)
			wantBool(t, "IsExtension of one that is told", is, code, true, impl.ErrNone)
		}
	})
}

// The guarantee of the chapter: lists and degrees count the extensions.
func TestL05ListsAndDegreesCountTheExtensions(t *testing.T) {
	everySized(12, func(x impl.Colouring, sizes []int64) {
		count, code := impl.CountExtensions(x, sizes)
		if code != impl.ErrNone {
			checkNoExtensions(t, x, sizes)
			return
		}
		degrees, code := impl.ExtensionsByDegree(x, sizes)
		sum := int64(0)
		for _, number := range degrees {
			sum += number
		}
		wantNumber(t, "ExtensionsByDegree, how many", int64(len(degrees)), code, x.Points+1, impl.ErrNone)
		wantNumber(t, "ExtensionsByDegree, together", sum, code, count, impl.ErrNone)
		list, code := impl.ExtensionList(x, sizes)
		if count > impl.MaxListed {
			wantNumber(t, "ExtensionList of too many", int64(len(list)), code, 0, impl.ErrLimit)
			return
		}
		wantNumber(t, "ExtensionList", int64(len(list)), code, count, impl.ErrNone)
		if !slices.IsSortedFunc(list, slices.Compare[[]int64]) {
			t.Errorf("ExtensionList(%v, %v) is not in order: %v", x, sizes, list)
		}
	})
}

// With 12 points, the lists of two colours are looked at one by one with what chapter 2 tells.
func TestL05TwelvePoints(t *testing.T) {
	thirteen, _ := impl.TakePoint(named(t, "thirteen"), 12)
	for _, one := range []struct {
		x     impl.Colouring
		sizes []int64
	}{
		{thirteen, []int64{3, 5}}, {thirteen, []int64{4, 5}}, {mixed(12, 2, 1), []int64{5, 6}}, {mixed(12, 2, 2), []int64{6, 5}},
		{inGroups(3, 3, 3, 3), []int64{5, 4}}, {inGroups(4, 4, 4), []int64{4, 6}}, {oneColour(12, 2, 1), []int64{4, 13}},
	} {
		avoids, _ := impl.AvoidsSizes(one.x, one.sizes)
		if !avoids {
			checkNoExtensions(t, one.x, one.sizes)
			continue
		}
		var want [][]int64
		everyList(12, 2, func(list []int64) {
			y := putIn(one.x, list)
			if avoids, _ := impl.AvoidsSizes(y, one.sizes); avoids {
				want = append(want, slices.Clone(list))
			}
		})
		checkExtensions(t, one.x, one.sizes, want)
	}
	// The point taken out can be put in again, and no other one.
	want := [][]int64{{0, 1, 1, 1, 0, 1, 1, 0, 1, 1, 1, 0}}
	for place := range want[0] {
		want[0][place] = colourIn(named(t, "thirteen"), int64(place), 12)
	}
	checkExtensions(t, thirteen, []int64{3, 5}, want)
}

// choose returns the number of sets of m out of n.
func choose(n int64, m int64) int64 {
	number := int64(1)
	for i := range m {
		number = number * (n - i) / (i + 1)
	}
	return number
}

// power returns a number to a power.
func power(base int64, exponent int64) int64 {
	number := int64(1)
	for range exponent {
		number *= base
	}
	return number
}

// All lists of colours are extensions for large sizes: 4^12 with 12 points and four colours.
func TestL05MostExtensions(t *testing.T) {
	for k := int64(1); k <= impl.MaxColours; k++ {
		for n := int64(1); n <= 12; n++ {
			for _, x := range []impl.Colouring{oneColour(n, k, 0), oneColour(n, k, byte(k-1)), mixed(n, k, 3)} {
				sizes := sameNumber(k, impl.MaxPoints)
				count, code := impl.CountExtensions(x, sizes)
				wantNumber(t, "CountExtensions of all lists", count, code, power(k, n), impl.ErrNone)
				var want []int64
				for d := range n + 1 {
					want = append(want, choose(n, d)*power(k-1, n-d))
				}
				degrees, code := impl.ExtensionsByDegree(x, sizes)
				wantList(t, "ExtensionsByDegree of all lists", degrees, code, want, impl.ErrNone)
				first, code := impl.FirstExtension(x, sizes)
				wantList(t, "FirstExtension of all lists", first, code, sameNumber(n, 0), impl.ErrNone)
				closed, code := impl.IsClosed(x, sizes)
				wantBool(t, "IsClosed of all lists", closed, code, false, impl.ErrNone)
				if list, code := impl.ExtensionList(x, sizes); (code == impl.ErrLimit) != (power(k, n) > impl.MaxListed) || code == impl.ErrLimit && len(list) > 0 {
					t.Errorf("ExtensionList of %d points and %d colours returns %d and %d", n, k, len(list), code)
				}
			}
		}
	}
}

// One list, or some colours, are missing.
func TestL05AllExtensionsButSome(t *testing.T) {
	x := oneColour(12, 4, 0)
	count, code := impl.CountExtensions(x, []int64{13, 17, 17, 17})
	wantNumber(t, "CountExtensions of all lists but one", count, code, 1<<24-1, impl.ErrNone)
	degrees, code := impl.ExtensionsByDegree(x, []int64{13, 17, 17, 17})
	if code != impl.ErrNone || len(degrees) != 13 || degrees[12] != 0 || degrees[11] != 36 || degrees[0] != power(3, 12) {
		t.Errorf("ExtensionsByDegree returns %v and %d", degrees, code)
	}
	first, code := impl.FirstExtension(x, []int64{13, 17, 17, 17})
	wantList(t, "FirstExtension", first, code, append(sameNumber(11, 0), 1), impl.ErrNone)
	first, code = impl.FirstExtension(x, []int64{13, 2, 2, 17})
	wantList(t, "FirstExtension", first, code, append(sameNumber(11, 0), 3), impl.ErrNone)
	count, code = impl.CountExtensions(x, []int64{13, 2, 2, 17})
	wantNumber(t, "CountExtensions of two colours but one list", count, code, 1<<12-1, impl.ErrNone)
	checkExtensions(t, x, []int64{13, 2, 2, 2}, nil)
	checkExtensions(t, x, []int64{14, 2, 2, 2}, [][]int64{sameNumber(12, 0)})
	checkExtensions(t, oneColour(12, 4, 3), []int64{2, 2, 2, 14}, [][]int64{sameNumber(12, 3)})
	checkExtensions(t, oneColour(12, 4, 3), []int64{2, 2, 2, 13}, nil)
	checkExtensions(t, oneColour(12, 1, 0), []int64{13}, nil)
	checkExtensions(t, oneColour(12, 1, 0), []int64{14}, [][]int64{sameNumber(12, 0)})
}

// withZeros returns the colouring of two colours with the colour 0 for some pairs, and otherwise 1.
func withZeros(n int64, pairs ...[2]int64) impl.Colouring {
	x := oneColour(n, 2, 1)
	for _, pair := range pairs {
		x.Edges[pair[1]*(pair[1]-1)/2+pair[0]] = 0
	}
	return x
}

func TestL05ExtensionListAtTheLimit(t *testing.T) {
	// The points of the colour 0 must have no edge of it: 5 of the sets of a path of three points
	// have none, and 2 of those of a point alone, so these are 5 * 5 * 2 * 2 * 2 sets.
	x := withZeros(9, [2]int64{0, 1}, [2]int64{1, 2}, [2]int64{3, 4}, [2]int64{4, 5})
	list, code := impl.ExtensionList(x, []int64{3, 17})
	wantNumber(t, "ExtensionList of 200", int64(len(list)), code, impl.MaxListed, impl.ErrNone)
	checkExtensions(t, x, []int64{3, 17}, extensionsOf(putCases(x), []int64{3, 17}))
	for _, one := range []struct {
		text        string
		sizes       []int64
		count, code int64
	}{
		{"4,4:2,33,031", []int64{4, 4, 3, 3}, 200, impl.ErrNone},
		{"4,4:2,11,200", []int64{3, 4, 3, 3}, 201, impl.ErrLimit},
	} {
		x := parsed(t, one.text)
		count, code := impl.CountExtensions(x, one.sizes)
		wantNumber(t, "CountExtensions at the limit", count, code, one.count, impl.ErrNone)
		list, code := impl.ExtensionList(x, one.sizes)
		if code != one.code || code == impl.ErrNone && int64(len(list)) != one.count || code != impl.ErrNone && len(list) > 0 {
			t.Errorf("ExtensionList of %d returns %d and %d", one.count, len(list), code)
		}
		checkExtensions(t, x, one.sizes, extensionsOf(putCases(x), one.sizes))
	}
}

// IsExtension has no limit but MaxPoints.
func TestL05IsExtensionOfManyPoints(t *testing.T) {
	seventeen := named(t, "seventeen")
	x, _ := impl.TakePoint(seventeen, 16)
	own := seventeen.Edges[120:136]
	var colours []int64
	for _, c := range own {
		colours = append(colours, int64(c))
	}
	is, code := impl.IsExtension(x, []int64{4, 4}, colours)
	wantBool(t, "IsExtension of 16 points", is, code, true, impl.ErrNone)
	for place := range colours {
		changed := slices.Clone(colours)
		changed[place] = 1 - changed[place]
		for _, sizes := range [][]int64{{4, 4}, {4, 5}, {5, 4}} {
			is, code := impl.IsExtension(x, sizes, changed)
			wantBool(t, "IsExtension with one colour changed", is, code, areLess(numbersByDefinition(putIn(x, changed)), sizes), impl.ErrNone)
		}
	}
	for n := int64(13); n <= 16; n++ {
		for k := int64(1); k <= impl.MaxColours; k++ {
			sizes := sameNumber(k, impl.MaxPoints)
			sizes[k-1] = n + 1
			is, code := impl.IsExtension(oneColour(n, k, byte(k-1)), sizes, sameNumber(n, k-1))
			wantBool(t, "IsExtension with a clique of all", is, code, false, impl.ErrNone)
			other := sameNumber(n, k-1)
			other[n-1] = 0
			is, code = impl.IsExtension(oneColour(n, k, byte(k-1)), sizes, other)
			wantBool(t, "IsExtension without a clique of all", is, code, k > 1, impl.ErrNone)
		}
	}
	// The points of sixteen avoid triangles, and no point can be put in.
	for seed := range uint64(20) {
		is, code := impl.IsExtension(named(t, "sixteen"), []int64{3, 3, 3}, coloursMixed(16, 3, seed))
		wantBool(t, "IsExtension of sixteen", is, code, false, impl.ErrNone)
	}
	is, code = impl.IsExtension(seventeen, []int64{4, 4}, sameNumber(17, 0))
	wantBool(t, "IsExtension of 17 points", is, code, false, impl.ErrLimit)
}

// countsByDefinition returns how many colourings of n points and k colours have the same clique
// numbers, by these.
func countsByDefinition(n int64, k int64) map[[impl.MaxColours]int64]int64 {
	counts := map[[impl.MaxColours]int64]int64{}
	everyList(n*(n-1)/2, k, func(list []int64) {
		x := impl.Colouring{Points: n, Colours: k}
		for e, c := range list {
			x.Edges[e] = byte(c)
		}
		var numbers [impl.MaxColours]int64
		copy(numbers[:], numbersByDefinition(x))
		counts[numbers]++
	})
	return counts
}

func TestL05CountAvoiding(t *testing.T) {
	most := []int64{0, 6, 6, 5, 4}
	from := [][]int64{nil, {1, 2, 3, 4, 5, 6, 7, 17}, {1, 2, 3, 4, 5, 6, 7, 17}, {1, 2, 3, 4, 6}, {1, 2, 3, 5}}
	for k := int64(1); k <= impl.MaxColours; k++ {
		for n := int64(1); n <= most[k]; n++ {
			counts := countsByDefinition(n, k)
			everySizes(k, from[k], func(sizes []int64) {
				want := int64(0)
				for numbers, count := range counts {
					if areLess(numbers[:k], sizes) {
						want += count
					}
				}
				count, code := impl.CountAvoiding(n, sizes)
				wantNumber(t, "CountAvoiding", count, code, want, impl.ErrNone)
			})
			count, code := impl.CountAvoiding(n, sameNumber(k, impl.MaxPoints))
			wantNumber(t, "CountAvoiding of all", count, code, power(k, n*(n-1)/2), impl.ErrNone)
		}
		for _, n := range []int64{0, -1, most[k] + 1, 7, 17, 18, math.MaxInt64, math.MinInt64, 1<<32 + 1} {
			count, code := impl.CountAvoiding(n, sameNumber(k, 3))
			wantNumber(t, "CountAvoiding out of range", count, code, 0, impl.ErrRange)
		}
	}
}

func TestL05KnownCounts(t *testing.T) {
	for place, want := range []int64{1, 2, 6, 18, 12, 0} {
		count, code := impl.CountAvoiding(int64(place)+1, []int64{3, 3})
		wantNumber(t, "CountAvoiding of 3 and 3", count, code, want, impl.ErrNone)
	}
	// The graphs without triangles, by the number of their points.
	for place, want := range []int64{1, 2, 7, 41, 388, 5789} {
		count, code := impl.CountAvoiding(int64(place)+1, []int64{3, 17})
		wantNumber(t, "CountAvoiding of 3 and 17", count, code, want, impl.ErrNone)
		count, code = impl.CountAvoiding(int64(place)+1, []int64{17, 3})
		wantNumber(t, "CountAvoiding of 17 and 3", count, code, want, impl.ErrNone)
	}
	for n := int64(1); n <= 6; n++ {
		for size := int64(1); size <= impl.MaxPoints; size++ {
			want := int64(0)
			if n < size {
				want = 1
			}
			count, code := impl.CountAvoiding(n, []int64{size})
			wantNumber(t, "CountAvoiding of one size", count, code, want, impl.ErrNone)
			count, code = impl.CountAvoiding(n, []int64{2, size})
			if size == 1 {
				want = 0
			}
			wantNumber(t, "CountAvoiding of 2 and a size", count, code, want, impl.ErrNone)
			count, code = impl.CountAvoiding(n, []int64{size, 1})
			wantNumber(t, "CountAvoiding of a size and 1", count, code, 0, impl.ErrNone)
		}
	}
}

// wrongSizes returns lists that are no sizes for any number of colours, each one for a reason of its
// own.
func wrongSizes() [][]int64 {
	return [][]int64{
		nil, {0}, {18}, {-1}, {3, 0}, {0, 3}, {3, 18}, {18, 3}, {-1, 3}, {3, 3, 0}, {3, 18, 3}, {3, 3, 3, 0}, {18, 3, 3, 3},
		{3, 3, 3, 3, 3}, {1, 1, 1, 1, 1}, {3, 3, 3, 3, 0}, {math.MaxInt64}, {3, math.MaxInt64}, {math.MinInt64, 3}, {3, 1<<32 + 3},
		{1, 0}, {1, 18}, make([]int64, 1000), slices.Repeat([]int64{3}, 1000),
	}
}

func TestL05NoSizesForNewColourings(t *testing.T) {
	for _, sizes := range wrongSizes() {
		for _, n := range []int64{1, 2, 4, 5, 6, 8, 0, 9, math.MaxInt64} {
			count, code := impl.CountAvoiding(n, sizes)
			wantNumber(t, "CountAvoiding of no sizes", count, code, 0, impl.ErrRange)
			x, code := impl.FirstAvoiding(n, sizes)
			wantSame(t, "FirstAvoiding of no sizes", x, code, impl.Colouring{}, impl.ErrRange)
		}
	}
	for _, k := range []int64{0, 1, 3, 4, 5} {
		for n := int64(-1); n <= 9; n++ {
			x, code := impl.FirstAvoiding(n, sameNumber(k, 3))
			wantSame(t, "FirstAvoiding of other than two sizes", x, code, impl.Colouring{}, impl.ErrRange)
		}
	}
}

// unset stands for the colour of an edge that has none yet.
const unset = 9

// firstFrom sets the edges from a number on, and returns the first colouring that avoids the sizes,
// and whether there is one.
func firstFrom(x impl.Colouring, e int64, sizes []int64) (impl.Colouring, bool) {
	if !areLess(numbersByDefinition(x), sizes) {
		return impl.Colouring{}, false
	}
	if e == x.Points*(x.Points-1)/2 {
		return x, true
	}
	for c := range x.Colours {
		x.Edges[e] = byte(c)
		if y, ok := firstFrom(x, e+1, sizes); ok {
			return y, true
		}
	}
	return impl.Colouring{}, false
}

func TestL05FirstAvoidingAgainstTheDefinition(t *testing.T) {
	for n := int64(1); n <= 8; n++ {
		everySizes(2, []int64{1, 2, 3, 4, 5, 8, 9, 17}, func(sizes []int64) {
			wantCode := int64(impl.ErrNone)
			want, ok := firstFrom(oneColour(n, 2, unset), 0, sizes)
			if !ok {
				wantCode = impl.ErrNotFound
			}
			x, code := impl.FirstAvoiding(n, sizes)
			wantSame(t, "FirstAvoiding", x, code, want, wantCode)
		})
	}
}

// Promise 16: first colourings of few points avoid what they are asked to.
func TestL05FirstColouringsAvoidSizes(t *testing.T) {
	for n := int64(1); n <= 8; n++ {
		for a := int64(1); a <= impl.MaxPoints; a++ {
			for b := int64(1); b <= impl.MaxPoints; b++ {
				x, code := impl.FirstAvoiding(n, []int64{a, b})
				// Of the Ramsey numbers of sizes, only these are at most 8.
				low, high := min(a, b), max(a, b)
				if low == 1 || low == 2 && n >= high || high == 3 && n >= 6 {
					wantSame(t, "FirstAvoiding of none", x, code, impl.Colouring{}, impl.ErrNotFound)
					continue
				}
				avoids, avoidsCode := impl.AvoidsSizes(x, []int64{a, b})
				if code != impl.ErrNone || avoidsCode != impl.ErrNone || !avoids || x.Points != n || x.Colours != 2 {
					t.Errorf("FirstAvoiding(%d, %d and %d) = %v, %d", n, a, b, x, code)
				}
			}
		}
	}
}

func TestL05FirstAvoiding(t *testing.T) {
	for _, one := range []struct {
		n, a, b int64
		text    string
		code    int64
	}{
		{1, 2, 2, "1,2:", impl.ErrNone}, {1, 17, 17, "1,2:", impl.ErrNone}, {1, 1, 2, "", impl.ErrNotFound}, {1, 2, 1, "", impl.ErrNotFound},
		{2, 2, 3, "2,2:1", impl.ErrNone}, {2, 3, 2, "2,2:0", impl.ErrNone}, {2, 2, 2, "", impl.ErrNotFound}, {4, 3, 3, "4,2:0,01,100", impl.ErrNone},
		{5, 3, 3, "5,2:0,01,101,1100", impl.ErrNone}, {6, 3, 3, "", impl.ErrNotFound}, {8, 3, 3, "", impl.ErrNotFound},
		{8, 17, 17, "8,2:0,00,000,0000,00000,000000,0000000", impl.ErrNone}, {8, 2, 9, "8,2:1,11,111,1111,11111,111111,1111111", impl.ErrNone},
		{8, 8, 17, "8,2:0,00,000,0000,00000,000000,0000001", impl.ErrNone}, {8, 2, 8, "", impl.ErrNotFound}, {8, 9, 1, "", impl.ErrNotFound},
	} {
		x, code := impl.FirstAvoiding(one.n, []int64{one.a, one.b})
		wantColouring(t, "FirstAvoiding", x, code, one.text, one.code)
	}
	for _, n := range []int64{0, 9, -1, 17, 18, math.MaxInt64, math.MinInt64, 1<<32 + 1} {
		x, code := impl.FirstAvoiding(n, []int64{3, 3})
		wantSame(t, "FirstAvoiding out of range", x, code, impl.Colouring{}, impl.ErrRange)
	}
}

// checkChanges compares the free changes with a look at each change by itself. avoids tells whether a
// colouring avoids the sizes.
func checkChanges(t *testing.T, x impl.Colouring, sizes []int64, avoids func(y impl.Colouring) bool) {
	t.Helper()
	var want [][]int64
	for i := range x.Points {
		for j := i + 1; j < x.Points; j++ {
			for c := range x.Colours {
				y := x
				y.Edges[j*(j-1)/2+i] = byte(c)
				if y != x && avoids(y) {
					want = append(want, []int64{i, j, c})
				}
			}
		}
	}
	changes, code := impl.FreeChanges(x, sizes)
	wantPairs(t, "FreeChanges", changes, code, want, impl.ErrNone)
}

func TestL05FreeChangesAgainstTheDefinition(t *testing.T) {
	use := func(x impl.Colouring, sizes []int64) {
		if areLess(numbersByDefinition(x), sizes) {
			checkChanges(t, x, sizes, func(y impl.Colouring) bool { return areLess(numbersByDefinition(y), sizes) })
		} else {
			checkNoExtensions(t, x, sizes)
		}
	}
	for n := int64(1); n <= 4; n++ {
		everyColouring(n, func(x impl.Colouring) {
			everySizes(2, []int64{1, 2, 3, 4, 5, 17}, func(sizes []int64) { use(x, sizes) })
		})
	}
	everySized(7, use)
}

// Promise 16: free changes keep sizes avoided, and all others do not.
func TestL05FreeChangesKeepSizesAvoided(t *testing.T) {
	everySized(impl.MaxPoints, func(x impl.Colouring, sizes []int64) {
		if avoids, _ := impl.AvoidsSizes(x, sizes); !avoids {
			changes, code := impl.FreeChanges(x, sizes)
			wantNumber(t, "FreeChanges, not avoided", int64(len(changes)), code, 0, impl.ErrState)
			return
		}
		checkChanges(t, x, sizes, func(y impl.Colouring) bool {
			avoids, _ := impl.AvoidsSizes(y, sizes)
			return avoids
		})
	})
}

func TestL05FreeChanges(t *testing.T) {
	for _, one := range []struct {
		text  string
		sizes []int64
		want  [][]int64
	}{
		{"3,2:0,01", []int64{3, 3}, [][]int64{{0, 1, 1}, {0, 2, 1}}},
		{"3,2:0,11", []int64{3, 3}, [][]int64{{0, 2, 0}, {1, 2, 0}}},
		{"3,2:0,01", []int64{4, 4}, [][]int64{{0, 1, 1}, {0, 2, 1}, {1, 2, 0}}},
		{"5,2:0,10,110,0110", []int64{3, 3}, nil},
		{"1,4:", []int64{2, 2, 2, 2}, nil},
		{"2,1:0", []int64{3}, nil},
		{"4,1:0,00,000", []int64{17}, nil},
		{"2,4:1", []int64{2, 3, 3, 17}, [][]int64{{0, 1, 2}, {0, 1, 3}}},
		{"2,4:3", []int64{3, 3, 2, 3}, [][]int64{{0, 1, 0}, {0, 1, 1}}},
		{"2,4:3", []int64{2, 2, 2, 17}, nil},
	} {
		changes, code := impl.FreeChanges(parsed(t, one.text), one.sizes)
		wantPairs(t, "FreeChanges of "+one.text, changes, code, one.want, impl.ErrNone)
	}
	// An edge that alone keeps 17 points from a clique must stay; all others may change.
	for _, e := range []int64{0, 60, 135} {
		x := oneColour(17, 4, 0)
		x.Edges[e] = 2
		changes, code := impl.FreeChanges(x, sameNumber(4, 17))
		wantNumber(t, "FreeChanges of 17 points", int64(len(changes)), code, 136*3-1, impl.ErrNone)
		if len(changes) == 407 && e == 0 && (!slices.Equal(changes[0], []int64{0, 1, 1}) || !slices.Equal(changes[406], []int64{15, 16, 3})) {
			t.Errorf("FreeChanges of 17 points returns %v", changes)
		}
		changes, code = impl.FreeChanges(x, []int64{17, 2, 3, 2})
		wantNumber(t, "FreeChanges of 17 points and two colours", int64(len(changes)), code, 135, impl.ErrNone)
	}
	checkChanges(t, named(t, "seventeen"), []int64{4, 4}, func(y impl.Colouring) bool {
		return areLess(numbersByDefinition(y), []int64{4, 4})
	})
}

func TestL05LongestBeginning(t *testing.T) {
	use := func(x impl.Colouring, sizes []int64, numbers [][]int64) {
		want := int64(0)
		for m := int64(1); m <= x.Points; m++ {
			avoids := true
			for c := range sizes {
				avoids = avoids && numbers[c][m] < sizes[c]
			}
			if avoids {
				want = m
			}
		}
		longest, code := impl.LongestBeginning(x, sizes)
		wantNumber(t, "LongestBeginning", longest, code, want, impl.ErrNone)
	}
	each := func(x impl.Colouring) {
		var numbers [][]int64
		for c := range x.Colours {
			numbers = append(numbers, beginningNumbers(x, c))
		}
		everySizes(x.Colours, []int64{1, 2, 3, 4, 17}, func(sizes []int64) { use(x, sizes, numbers) })
		use(x, sameNumber(x.Colours, 8), numbers)
	}
	everyShape(each)
	for n := int64(1); n <= impl.MaxPoints; n++ {
		for k := int64(1); k <= impl.MaxColours; k++ {
			for size := int64(1); size <= impl.MaxPoints; size++ {
				longest, code := impl.LongestBeginning(oneColour(n, k, byte(k-1)), append(sameNumber(k-1, 2), size))
				wantNumber(t, "LongestBeginning of one colour", longest, code, min(n, size-1), impl.ErrNone)
			}
		}
	}
	each(inGroups(3, 3, 3, 3, 3, 2))
	longest, code := impl.LongestBeginning(named(t, "seventeen"), []int64{4, 4})
	wantNumber(t, "LongestBeginning of all points", longest, code, 17, impl.ErrNone)
	longest, code = impl.LongestBeginning(named(t, "pentagon"), []int64{3, 1})
	wantNumber(t, "LongestBeginning of no point", longest, code, 0, impl.ErrNone)
	longest, code = impl.LongestBeginning(parsed(t, "1,4:"), []int64{2, 2, 2, 1})
	wantNumber(t, "LongestBeginning of no point", longest, code, 0, impl.ErrNone)
	longest, code = impl.LongestBeginning(parsed(t, "3,2:0,10"), []int64{2, 17})
	wantNumber(t, "LongestBeginning of one point", longest, code, 1, impl.ErrNone)
}

// sizedCalls returns the functions of a colouring and sizes, each one as a function that returns
// whether its results are zero values, and its code.
func sizedCalls() map[string]func(x impl.Colouring, sizes []int64) (bool, int64) {
	return map[string]func(x impl.Colouring, sizes []int64) (bool, int64){
		"IsExtension": func(x impl.Colouring, sizes []int64) (bool, int64) {
			is, code := impl.IsExtension(x, sizes, sameNumber(max(0, min(x.Points, 20)), 0))
			return !is, code
		},
		"CountExtensions": func(x impl.Colouring, sizes []int64) (bool, int64) {
			count, code := impl.CountExtensions(x, sizes)
			return count == 0, code
		},
		"FirstExtension": func(x impl.Colouring, sizes []int64) (bool, int64) {
			first, code := impl.FirstExtension(x, sizes)
			return len(first) == 0, code
		},
		"ExtensionList": func(x impl.Colouring, sizes []int64) (bool, int64) {
			list, code := impl.ExtensionList(x, sizes)
			return len(list) == 0, code
		},
		"ExtensionsByDegree": func(x impl.Colouring, sizes []int64) (bool, int64) {
			degrees, code := impl.ExtensionsByDegree(x, sizes)
			return len(degrees) == 0, code
		},
		"IsClosed": func(x impl.Colouring, sizes []int64) (bool, int64) {
			closed, code := impl.IsClosed(x, sizes)
			return !closed, code
		},
		"FreeChanges": func(x impl.Colouring, sizes []int64) (bool, int64) {
			changes, code := impl.FreeChanges(x, sizes)
			return len(changes) == 0, code
		},
		"LongestBeginning": func(x impl.Colouring, sizes []int64) (bool, int64) {
			longest, code := impl.LongestBeginning(x, sizes)
			return longest == 0, code
		},
	}
}

// With no colouring, ErrInvalid comes whatever the other arguments are.
func TestL05NoColouring(t *testing.T) {
	for what, x := range wrongColourings() {
		for name, call := range sizedCalls() {
			for _, sizes := range append(wrongSizes(), []int64{3, 3}, []int64{17, 17}, []int64{3, 3, 3}, []int64{1, 1}) {
				if zero, code := call(x, sizes); !zero || code != impl.ErrInvalid {
					t.Errorf("%s of %v, %s, returns %v and %d", name, sizes, what, zero, code)
				}
			}
		}
		for _, colours := range [][]int64{nil, {0}, {0, 0, 0}, {-1, 9, 0}} {
			is, code := impl.IsExtension(x, []int64{3, 3}, colours)
			wantBool(t, "IsExtension: "+what, is, code, false, impl.ErrInvalid)
		}
	}
}

// Lists that are no sizes come before a colouring that does not avoid them and one of too many points.
func TestL05NoSizes(t *testing.T) {
	for name, call := range sizedCalls() {
		for _, x := range []impl.Colouring{
			parsed(t, "1,2:"), named(t, "pentagon"), named(t, "eight"), oneColour(12, 2, 0), oneColour(13, 2, 1), oneColour(17, 2, 0), named(t, "seventeen"),
			parsed(t, "1,1:"), oneColour(17, 1, 0), named(t, "sixteen"), oneColour(12, 3, 2), oneColour(4, 4, 3), mixed(17, 4, 1),
		} {
			for _, sizes := range wrongSizes() {
				if zero, code := call(x, sizes); !zero || code != impl.ErrRange {
					t.Errorf("%s of %v and %d points returns %v and %d", name, sizes, x.Points, zero, code)
				}
			}
			for k := range int64(7) {
				if k == x.Colours {
					continue
				}
				for _, size := range []int64{1, 3, 17} {
					if zero, code := call(x, sameNumber(k, size)); !zero || code != impl.ErrRange {
						t.Errorf("%s of %d sizes and %d colours returns %v and %d", name, k, x.Colours, zero, code)
					}
				}
			}
		}
	}
}

// A wrong list of colours comes before sizes that are not avoided and before too many points.
func TestL05NoListOfColours(t *testing.T) {
	for _, one := range []struct {
		x     impl.Colouring
		sizes []int64
	}{
		{named(t, "pentagon"), []int64{3, 3}}, {named(t, "pentagon"), []int64{4, 4}}, {named(t, "pentagon"), []int64{2, 2}}, {named(t, "pentagon"), []int64{1, 17}},
		{named(t, "seventeen"), []int64{4, 4}}, {named(t, "seventeen"), []int64{3, 3}}, {oneColour(16, 2, 0), []int64{17, 17}}, {parsed(t, "1,2:"), []int64{2, 2}},
	} {
		n := one.x.Points
		lists := [][]int64{sameNumber(n-1, 0), sameNumber(n+1, 0), sameNumber(n, 2), sameNumber(n, -1), sameNumber(n, 256), sameNumber(n, math.MaxInt64), make([]int64, 1000)}
		for _, wrong := range []int64{2, 4, -1, math.MinInt64} {
			lists = append(lists, append(sameNumber(n-1, 0), wrong), append([]int64{wrong}, sameNumber(n-1, 1)...))
		}
		for _, colours := range lists {
			is, code := impl.IsExtension(one.x, one.sizes, colours)
			wantBool(t, "IsExtension of a wrong list", is, code, false, impl.ErrRange)
		}
	}
	is, code := impl.IsExtension(oneColour(3, 4, 0), []int64{5, 2, 2, 2}, []int64{0, 0, 4})
	wantBool(t, "IsExtension of a fifth colour", is, code, false, impl.ErrRange)
}

func TestL05NotAvoidedAndTooManyPoints(t *testing.T) {
	few := []string{"CountExtensions", "FirstExtension", "ExtensionList", "ExtensionsByDegree", "IsClosed"}
	for name, call := range sizedCalls() {
		for n := int64(1); n <= impl.MaxPoints; n++ {
			for k := int64(1); k <= impl.MaxColours; k++ {
				x := oneColour(n, k, byte(k-1))
				tooMany := n > 12 && slices.Contains(few, name) || n == impl.MaxPoints && name == "IsExtension"
				// The last size is as great as the clique of all points.
				want := int64(impl.ErrState)
				if name == "LongestBeginning" || name == "IsClosed" && !tooMany {
					want = impl.ErrNone
				} else if name == "IsClosed" {
					want = impl.ErrLimit
				}
				zero, code := call(x, append(sameNumber(k-1, 17), n))
				if code != want || !zero && name != "LongestBeginning" {
					t.Errorf("%s of %d points, not avoided, returns %v and %d, not %d", name, n, zero, code, want)
				}
				if n == impl.MaxPoints {
					continue
				}
				want = impl.ErrNone
				if tooMany {
					want = impl.ErrLimit
				} else if name == "ExtensionList" && power(k, n) > impl.MaxListed+1 {
					want = impl.ErrLimit
				} else if name == "FirstExtension" && k == 1 {
					want = impl.ErrNotFound
				}
				zero, code = call(x, append(sameNumber(k-1, 17), n+1))
				if code != want || code != impl.ErrNone && !zero {
					t.Errorf("%s of %d points, avoided, returns %v and %d, not %d", name, n, zero, code, want)
				}
			}
		}
	}
	for name, call := range sizedCalls() {
		want := map[string]int64{"FreeChanges": impl.ErrNone, "LongestBeginning": impl.ErrNone}
		zero, code := call(named(t, "seventeen"), []int64{4, 4})
		if wanted, ok := want[name]; !ok && (code != impl.ErrLimit || !zero) || ok && code != wanted {
			t.Errorf("%s of 17 points returns %v and %d", name, zero, code)
		}
	}
}

func TestL05ListsStayAsTheyAre(t *testing.T) {
	for _, sizes := range [][]int64{{3, 3}, {3, 4}, {17, 17}, {1, 2}, {2, 1}, {3, 18}, {0, 3}} {
		for _, x := range []impl.Colouring{named(t, "pentagon"), parsed(t, "4,2:0,10,110"), named(t, "seventeen")} {
			given, colours := withSpare(sizes...), withSpare(upTo(2)...)
			for _, call := range sizedCalls() {
				call(x, given)
			}
			impl.IsExtension(parsed(t, "2,2:0"), given, colours)
			impl.CountAvoiding(4, given)
			impl.FirstAvoiding(4, given)
			if !slices.Equal(given[:len(sizes)+3], append(slices.Clone(sizes), 77, 77, 77)) {
				t.Errorf("a list %v is changed to %v", sizes, given[:len(sizes)+3])
			}
			if !slices.Equal(colours[:5], []int64{0, 1, 77, 77, 77}) {
				t.Errorf("a list of colours is changed to %v", colours[:5])
			}
		}
	}
}

// Writing to one list of a result, or behind it, must not show in another one.
func TestL05ResultsAreNew(t *testing.T) {
	x := parsed(t, "4,2:0,01,100")
	for _, get := range []func() [][]int64{
		func() [][]int64 { lists, _ := impl.ExtensionList(x, []int64{4, 4}); return lists },
		func() [][]int64 { lists, _ := impl.FreeChanges(x, []int64{4, 4}); return lists },
		func() [][]int64 { list, _ := impl.FirstExtension(x, []int64{4, 4}); return [][]int64{list} },
		func() [][]int64 { list, _ := impl.ExtensionsByDegree(x, []int64{4, 4}); return [][]int64{list} },
	} {
		first, second := get(), get()
		if len(first) == 0 || len(first[0]) == 0 {
			t.Fatalf("a result is empty: %v", first)
		}
		for place, list := range first {
			list = append(list, -1)
			for i := range list {
				list[i] = -1
			}
			first[place] = append(first[place], -1)
			for i := range first[place] {
				first[place][i] = -1
			}
			if place+1 < len(first) && !slices.Equal(first[place+1], second[place+1]) {
				t.Errorf("list %d is changed by list %d", place+1, place)
			}
		}
		if third := get(); !sameLists(second, third) {
			t.Errorf("a result is changed: %v and %v", second, third)
		}
	}
}
