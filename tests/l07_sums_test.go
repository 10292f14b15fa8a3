package tests

import (
	"math"
	"runtime"
	"slices"
	"testing"

	"loop.example/g01362/impl"
)

// isFault reports whether three numbers of a part are a fault of a kind.
func isFault(part []int64, kind int64, x int64, y int64, z int64) bool {
	if part[x-1] != part[y-1] || part[y-1] != part[z-1] || x > y || y >= z {
		return false
	}
	switch kind {
	case 0:
		return x+y == z
	case 1:
		return x+y == z && x < y
	}
	return z-y == y-x && x < y
}

// faultsByDefinition returns the faults of a kind with numbers from z on, in order.
func faultsByDefinition(part []int64, kind int64, from int64) [][]int64 {
	var faults [][]int64
	n := int64(len(part))
	for z := from; z <= n; z++ {
		for y := int64(1); y <= n; y++ {
			for x := int64(1); x <= n; x++ {
				if isFault(part, kind, x, y, z) {
					faults = append(faults, []int64{x, y, z})
				}
			}
		}
	}
	return faults
}

// freeNext returns the colours with which a free part can go on, and the parts that it becomes.
func freeNext(k int64, part []int64, kind int64) ([]int64, [][]int64) {
	var colours []int64
	var parts [][]int64
	for c := range k {
		longer := append(slices.Clone(part), c)
		if len(faultsByDefinition(longer, kind, int64(len(longer)))) == 0 {
			colours = append(colours, c)
			parts = append(parts, longer)
		}
	}
	return colours, parts
}

// everyFree calls a function for each n in 0..most with all free parts of n, in order.
func everyFree(most int64, k int64, kind int64, use func(n int64, parts [][]int64)) {
	parts := [][]int64{{}}
	for n := range most + 1 {
		use(n, parts)
		var longer [][]int64
		for _, part := range parts {
			_, next := freeNext(k, part, kind)
			longer = append(longer, next...)
		}
		parts = longer
	}
}

// everyPartCase calls a function with parts into 1 to 3 colours: all ones of few numbers, and mixed
// ones of up to MaxNumbers numbers, also with few faults.
func everyPartCase(use func(k int64, part []int64)) {
	most := []int64{0, impl.MaxNumbers, 9, 6}
	for k := int64(1); k <= 3; k++ {
		for n := range most[k] + 1 {
			everyList(n, k, func(part []int64) { use(k, part) })
		}
		for n := most[k] + 1; n <= impl.MaxNumbers; n++ {
			for seed := range uint64(3) {
				use(k, coloursMixed(n, k, seed))
			}
			for kind := range int64(3) {
				use(k, fewFaults(n, k, kind))
			}
		}
	}
}

// fewFaults returns a part of n in which each number has a colour that goes on, if there is one.
func fewFaults(n int64, k int64, kind int64) []int64 {
	var part []int64
	for m := range n {
		c := m % k
		if colours, _ := freeNext(k, part, kind); len(colours) > 0 {
			c = colours[int(m)%len(colours)]
		}
		part = append(part, c)
	}
	return part
}

// checkFaults compares what is told of the faults of a part with the definitions.
func checkFaults(t *testing.T, k int64, part []int64, kind int64) {
	t.Helper()
	want := faultsByDefinition(part, kind, 1)
	free, code := impl.IsFree(k, part, kind)
	wantBool(t, "IsFree", free, code, len(want) == 0, impl.ErrNone)
	count, code := impl.CountFaults(k, part, kind)
	wantNumber(t, "CountFaults", count, code, int64(len(want)), impl.ErrNone)
	first, code := impl.FirstFault(k, part, kind)
	if len(want) > 0 {
		wantList(t, "FirstFault", first, code, want[0], impl.ErrNone)
	} else {
		wantList(t, "FirstFault of a free part", first, code, nil, impl.ErrNotFound)
	}
	colours, code := impl.ColoursNext(k, part, kind)
	switch {
	case len(part) >= impl.MaxNumbers:
		wantList(t, "ColoursNext of MaxNumbers numbers", colours, code, nil, impl.ErrRange)
	case len(want) > 0:
		wantList(t, "ColoursNext of a part that is not free", colours, code, nil, impl.ErrState)
	default:
		wantColours, _ := freeNext(k, part, kind)
		wantList(t, "ColoursNext", colours, code, wantColours, impl.ErrNone)
	}
}

// checkClasses compares what is told of the colours of a part with the definitions.
func checkClasses(t *testing.T, k int64, part []int64) {
	t.Helper()
	for c := range k {
		var want []int64
		for m := range int64(len(part)) {
			if part[m] == c {
				want = append(want, m+1)
			}
		}
		class, code := impl.ClassOfColour(k, part, c)
		wantList(t, "ClassOfColour", class, code, want, impl.ErrNone)
	}
	var want []int64
	for m := len(part) - 1; m >= 0; m-- {
		want = append(want, part[m])
	}
	reflected, code := impl.ReflectPart(k, part)
	wantList(t, "ReflectPart", reflected, code, want, impl.ErrNone)
	back, code := impl.ReflectPart(k, reflected)
	wantList(t, "ReflectPart of a reflected part", back, code, part, impl.ErrNone)
	count, _ := impl.CountFaults(k, part, 2)
	other, code := impl.CountFaults(k, reflected, 2)
	wantNumber(t, "CountFaults of a reflected part", other, code, count, impl.ErrNone)
}

// checkColouring compares the colouring of a part with the definition.
func checkColouring(t *testing.T, k int64, part []int64) {
	t.Helper()
	x, code := impl.ColouringOfPart(k, part)
	if len(part) > 16 {
		wantSame(t, "ColouringOfPart of more than 16 numbers", x, code, impl.Colouring{}, impl.ErrRange)
		return
	}
	want := byRule(int64(len(part))+1, k, func(i int64, j int64) int64 { return part[j-i-1] })
	wantSame(t, "ColouringOfPart", x, code, want, impl.ErrNone)
	back, code := impl.PartOfColouring(x)
	wantList(t, "PartOfColouring", back, code, part, impl.ErrNone)
}

func TestL07MaxNumbers(t *testing.T) {
	if impl.MaxNumbers != 40 {
		t.Errorf("MaxNumbers is %d", impl.MaxNumbers)
	}
}

// The guarantee of the chapter: faults are of one colour. They are those of the definitions.
func TestL07AgainstTheDefinition(t *testing.T) {
	everyPartCase(func(k int64, part []int64) {
		for kind := range int64(3) {
			checkFaults(t, k, part, kind)
		}
		checkClasses(t, k, part)
		checkColouring(t, k, part)
	})
}

// faultCase has a part into colours, a kind, its first fault, and how many there are.
type faultCase struct {
	k     int64
	part  []int64
	kind  int64
	first []int64
	count int64
}

func TestL07Faults(t *testing.T) {
	for _, c := range []faultCase{
		{1, nil, 0, nil, 0}, {3, nil, 1, nil, 0}, {2, nil, 2, nil, 0},
		{1, []int64{0}, 0, nil, 0}, {3, []int64{2}, 1, nil, 0}, {2, []int64{1}, 2, nil, 0},
		// x may be y for the kind 0 alone.
		{1, []int64{0, 0}, 0, []int64{1, 1, 2}, 1}, {1, []int64{0, 0}, 1, nil, 0}, {1, []int64{0, 0}, 2, nil, 0},
		{2, []int64{0, 1, 0, 1}, 0, []int64{2, 2, 4}, 1}, {2, []int64{0, 1, 0, 1}, 1, nil, 0},
		{1, []int64{0, 0, 0}, 0, []int64{1, 1, 2}, 2}, {1, []int64{0, 0, 0}, 1, []int64{1, 2, 3}, 1}, {1, []int64{0, 0, 0}, 2, []int64{1, 2, 3}, 1},
		{1, []int64{0, 0, 0, 0, 0}, 0, []int64{1, 1, 2}, 6}, {1, []int64{0, 0, 0, 0, 0}, 1, []int64{1, 2, 3}, 4}, {1, []int64{0, 0, 0, 0, 0}, 2, []int64{1, 2, 3}, 4},
		// The least z comes first, and for it the least y.
		{2, []int64{0, 1, 1, 0, 0}, 0, []int64{1, 4, 5}, 1}, {2, []int64{0, 1, 0, 0, 0}, 0, []int64{1, 3, 4}, 2},
		{2, []int64{0, 0, 1, 0, 1, 1}, 1, nil, 0}, {2, []int64{0, 1, 1, 0, 1, 0, 1}, 1, []int64{2, 3, 5}, 2},
		{2, []int64{1, 0, 0, 0, 1, 1, 0}, 1, []int64{1, 5, 6}, 2}, {2, []int64{0, 0, 1, 1, 0, 1, 0}, 1, []int64{2, 5, 7}, 1},
		{3, []int64{0, 0, 1, 2, 0, 0, 1}, 1, []int64{1, 5, 6}, 1}, {3, []int64{0, 0, 0, 1, 1, 1, 0}, 2, []int64{1, 2, 3}, 2},
		{2, []int64{0, 0, 1, 0, 0, 1, 0}, 2, []int64{1, 4, 7}, 1}, {2, []int64{0, 0, 1, 0, 1, 0, 0}, 2, []int64{2, 4, 6}, 2},
		{2, []int64{0, 1, 0, 1, 0}, 2, []int64{1, 3, 5}, 1}, {2, []int64{0, 0, 1, 1, 0, 0, 1, 1, 0}, 2, []int64{1, 5, 9}, 1},
		{1, sameNumber(40, 0), 0, []int64{1, 1, 2}, 400}, {1, sameNumber(40, 0), 1, []int64{1, 2, 3}, 380}, {1, sameNumber(40, 0), 2, []int64{1, 2, 3}, 380},
		{3, sameNumber(39, 2), 0, []int64{1, 1, 2}, 380}, {3, sameNumber(39, 2), 1, []int64{1, 2, 3}, 361}, {3, sameNumber(39, 2), 2, []int64{1, 2, 3}, 361},
	} {
		wantCode := int64(impl.ErrNone)
		if c.first == nil {
			wantCode = impl.ErrNotFound
		}
		first, code := impl.FirstFault(c.k, c.part, c.kind)
		wantList(t, "FirstFault", first, code, c.first, wantCode)
		count, code := impl.CountFaults(c.k, c.part, c.kind)
		wantNumber(t, "CountFaults", count, code, c.count, impl.ErrNone)
		free, code := impl.IsFree(c.k, c.part, c.kind)
		wantBool(t, "IsFree", free, code, c.count == 0, impl.ErrNone)
	}
}

// partWith returns a part of n with the colours of the numbers in lists, one list a colour.
func partWith(n int64, classes ...[]int64) []int64 {
	part := sameNumber(n, -1)
	for c, class := range classes {
		for _, m := range class {
			part[m-1] = int64(c)
		}
	}
	return part
}

// longestParts returns a free part into 3 colours of the greatest number for each kind.
func longestParts() [][]int64 {
	return [][]int64{
		partWith(13, []int64{1, 4, 10, 13}, []int64{2, 3, 11, 12}, []int64{5, 6, 7, 8, 9}),
		partWith(23, []int64{1, 2, 4, 8, 11, 22}, []int64{3, 5, 6, 7, 19, 21, 23}, []int64{9, 10, 12, 13, 14, 15, 16, 17, 18, 20}),
		partWith(26, []int64{1, 2, 5, 6, 12, 14, 15, 17, 21}, []int64{3, 4, 7, 9, 16, 18, 19, 24, 26}, []int64{8, 10, 11, 13, 20, 22, 23, 25}),
	}
}

// nextCase has a part into colours, a kind, and the colours with which it goes on.
type nextCase struct {
	k    int64
	part []int64
	kind int64
	want []int64
}

func TestL07ColoursNext(t *testing.T) {
	for _, c := range []nextCase{
		// The empty part, and others that all colours go on.
		{1, nil, 0, []int64{0}}, {2, nil, 1, []int64{0, 1}}, {3, nil, 2, []int64{0, 1, 2}}, {3, nil, 0, []int64{0, 1, 2}},
		{1, []int64{0}, 1, []int64{0}}, {1, []int64{0}, 2, []int64{0}}, {3, []int64{1}, 1, []int64{0, 1, 2}}, {3, []int64{0, 1}, 0, []int64{0, 1, 2}},
		{2, []int64{0, 1, 1}, 1, []int64{0, 1}}, {3, []int64{0, 1, 0, 2, 0}, 1, []int64{1, 2}}, {3, []int64{0, 1, 1, 0}, 0, []int64{2}},
		{3, []int64{2, 2}, 1, []int64{0, 1}}, {3, []int64{2, 2}, 2, []int64{0, 1}}, {3, []int64{1}, 0, []int64{0, 2}}, {2, []int64{0}, 0, []int64{1}},
		{2, []int64{0, 1, 1}, 0, []int64{0}}, {2, []int64{1, 0, 0}, 0, []int64{1}},
		// Parts that no colour goes on.
		{1, []int64{0}, 0, nil}, {1, []int64{0, 0}, 1, nil}, {1, []int64{0, 0}, 2, nil}, {2, []int64{0, 1, 1, 0}, 0, nil},
		{2, []int64{0, 0, 1, 0, 1, 1, 1, 0}, 1, nil}, {2, []int64{0, 0, 1, 1, 0, 0, 1, 1}, 2, nil},
		{3, longestParts()[0], 0, nil}, {3, longestParts()[1], 1, nil}, {3, longestParts()[2], 2, nil},
	} {
		free, code := impl.IsFree(c.k, c.part, c.kind)
		wantBool(t, "IsFree", free, code, true, impl.ErrNone)
		colours, code := impl.ColoursNext(c.k, c.part, c.kind)
		wantList(t, "ColoursNext", colours, code, c.want, impl.ErrNone)
		wantColours, _ := freeNext(c.k, c.part, c.kind)
		wantList(t, "ColoursNext by the definition", colours, code, wantColours, impl.ErrNone)
	}
	for kind, part := range longestParts() {
		checkFaults(t, 3, part, int64(kind))
		checkFaults(t, 3, part[:len(part)-1], int64(kind))
	}
}

// No part of so many numbers is free, so that just the two errors are told apart.
func TestL07ColoursNextOfManyNumbers(t *testing.T) {
	for k := int64(1); k <= 3; k++ {
		for kind := range int64(3) {
			for _, n := range []int64{27, 38, 39, 40, 41, 42, 1000} {
				wantCode := int64(impl.ErrState)
				if n >= impl.MaxNumbers {
					wantCode = impl.ErrRange
				}
				for _, part := range [][]int64{sameNumber(n, k-1), coloursMixed(n, k, 1)} {
					colours, code := impl.ColoursNext(k, part, kind)
					wantList(t, "ColoursNext of many numbers", colours, code, nil, wantCode)
				}
			}
		}
	}
	for _, part := range [][]int64{{0, 0}, {0, 0, 1}, {0, 0, 1, 1}, {1, 0, 0, 0}} {
		colours, code := impl.ColoursNext(2, part, 0)
		wantList(t, "ColoursNext of a part that is not free", colours, code, nil, impl.ErrState)
	}
	// A fault before the last number counts as one with it does.
	colours, code := impl.ColoursNext(3, []int64{0, 0, 1, 2, 1}, 0)
	wantList(t, "ColoursNext behind a fault", colours, code, nil, impl.ErrState)
	colours, code = impl.ColoursNext(3, []int64{0, 0, 0, 1}, 2)
	wantList(t, "ColoursNext behind a fault", colours, code, nil, impl.ErrState)
}

func TestL07FreePartsAgainstTheDefinition(t *testing.T) {
	for k := int64(1); k <= 3; k++ {
		for kind := range int64(3) {
			everyFree(14, k, kind, func(n int64, parts [][]int64) {
				soon(t, "FirstFree or CountFree", func() {
					first, code := impl.FirstFree(n, k, kind)
					if len(parts) > 0 {
						wantList(t, "FirstFree", first, code, parts[0], impl.ErrNone)
					} else {
						wantList(t, "FirstFree of none", first, code, nil, impl.ErrNotFound)
					}
					count, code := impl.CountFree(n, k, kind)
					if n <= 12 {
						wantNumber(t, "CountFree", count, code, int64(len(parts)), impl.ErrNone)
					} else {
						wantNumber(t, "CountFree of too many", count, code, 0, impl.ErrRange)
					}
				})
			})
		}
	}
}

func TestL07FirstFree(t *testing.T) {
	for _, c := range []struct {
		n, k, kind int64
		want       []int64
	}{
		{1, 1, 0, []int64{0}}, {2, 1, 1, []int64{0, 0}}, {2, 1, 2, []int64{0, 0}}, {4, 2, 0, []int64{0, 1, 1, 0}}, {3, 2, 0, []int64{0, 1, 0}},
		{8, 2, 1, []int64{0, 0, 1, 0, 1, 1, 1, 0}}, {8, 2, 2, []int64{0, 0, 1, 1, 0, 0, 1, 1}},
		{13, 3, 0, []int64{0, 1, 1, 0, 2, 2, 0, 2, 2, 0, 1, 1, 0}},
	} {
		first, code := impl.FirstFree(c.n, c.k, c.kind)
		wantList(t, "FirstFree", first, code, c.want, impl.ErrNone)
	}
	for kind := range int64(3) {
		for k := int64(1); k <= 3; k++ {
			first, code := impl.FirstFree(0, k, kind)
			wantList(t, "FirstFree of no number", first, code, nil, impl.ErrNone)
			first, code = impl.FirstFree(1, k, kind)
			wantList(t, "FirstFree of one number", first, code, []int64{0}, impl.ErrNone)
			// With three colours the kinds 1 and 2 have free parts of 14.
			if k < 3 || kind == 0 {
				first, code = impl.FirstFree(14, k, kind)
				wantList(t, "FirstFree of none", first, code, nil, impl.ErrNotFound)
			} else if first, code = impl.FirstFree(14, k, kind); len(first) != 14 || code != impl.ErrNone {
				t.Errorf("FirstFree of 14 numbers returns %v and %d", first, code)
			}
		}
	}
	for _, c := range [][3]int64{{2, 1, 0}, {3, 1, 1}, {3, 1, 2}, {5, 2, 0}, {9, 2, 1}, {9, 2, 2}} {
		first, code := impl.FirstFree(c[0], c[1], c[2])
		wantList(t, "FirstFree of none", first, code, nil, impl.ErrNotFound)
	}
}

// Promise 7: first parts are free.
func TestL07FirstPartsAreFree(t *testing.T) {
	for k := int64(1); k <= 3; k++ {
		for kind := range int64(3) {
			for n := range int64(15) {
				part, code := impl.FirstFree(n, k, kind)
				if code == impl.ErrNotFound {
					continue
				}
				free, freeCode := impl.IsFree(k, part, kind)
				wantBool(t, "IsFree of a first part", free, max(code, freeCode), true, impl.ErrNone)
				if int64(len(part)) != n || len(faultsByDefinition(part, kind, 1)) > 0 {
					t.Errorf("FirstFree(%d, %d, %d) = %v", n, k, kind, part)
				}
			}
		}
	}
}

// Promise 7: colours that go on keep parts free, and no other ones do.
func TestL07ColoursThatGoOnKeepPartsFree(t *testing.T) {
	check := func(k int64, part []int64, kind int64) {
		colours, code := impl.ColoursNext(k, part, kind)
		if code == impl.ErrState || code == impl.ErrRange {
			return
		}
		for c := range k {
			free, freeCode := impl.IsFree(k, append(slices.Clone(part), c), kind)
			wantBool(t, "IsFree with a colour that goes on", free, max(code, freeCode), slices.Contains(colours, c), impl.ErrNone)
		}
	}
	everyPartCase(func(k int64, part []int64) {
		for kind := range int64(3) {
			check(k, part, kind)
		}
	})
	for kind, part := range longestParts() {
		for n := range part {
			check(3, part[:n], int64(kind))
		}
	}
}

func TestL07CountFree(t *testing.T) {
	for _, c := range []struct {
		k, kind int64
		want    []int64 // for n from 0 on; 0 for greater n, if there are less than 13
	}{
		{1, 0, []int64{1, 1}}, {1, 1, []int64{1, 1, 1}}, {1, 2, []int64{1, 1, 1}},
		{2, 0, []int64{1, 2, 2, 4, 2}}, {2, 2, []int64{1, 2, 4, 6, 10, 14, 20, 16, 6}},
	} {
		for n := range int64(13) {
			want := append(slices.Clone(c.want), make([]int64, 13)...)[n]
			count, code := impl.CountFree(n, c.k, c.kind)
			wantNumber(t, "CountFree", count, code, want, impl.ErrNone)
		}
	}
	for k := int64(1); k <= 3; k++ {
		for kind := range int64(3) {
			count, code := impl.CountFree(0, k, kind)
			wantNumber(t, "CountFree of no number", count, code, 1, impl.ErrNone)
			count, code = impl.CountFree(1, k, kind)
			wantNumber(t, "CountFree of one number", count, code, k, impl.ErrNone)
		}
	}
}

func TestL07GreatestFree(t *testing.T) {
	want := [][]int64{nil, {1, 2, 2}, {4, 8, 8}}
	for k := int64(-2); k <= 5; k++ {
		for kind := int64(-2); kind <= 5; kind++ {
			greatest, code := impl.GreatestFree(k, kind)
			if k < 1 || k > 2 || kind < 0 || kind > 2 {
				wantNumber(t, "GreatestFree out of range", greatest, code, 0, impl.ErrRange)
				continue
			}
			wantNumber(t, "GreatestFree", greatest, code, want[k][kind], impl.ErrNone)
			count, code := impl.CountFree(greatest, k, kind)
			if count == 0 || code != impl.ErrNone {
				t.Errorf("CountFree(%d, %d, %d) = %d and %d", greatest, k, kind, count, code)
			}
			count, code = impl.CountFree(greatest+1, k, kind)
			wantNumber(t, "CountFree of one number more", count, code, 0, impl.ErrNone)
		}
	}
	for _, wrong := range []int64{math.MinInt64, math.MaxInt64, 1<<32 + 1, 257} {
		greatest, code := impl.GreatestFree(wrong, 0)
		wantNumber(t, "GreatestFree of a wrong k", greatest, code, 0, impl.ErrRange)
		greatest, code = impl.GreatestFree(1, wrong)
		wantNumber(t, "GreatestFree of a wrong kind", greatest, code, 0, impl.ErrRange)
	}
}

func TestL07ColouringOfPart(t *testing.T) {
	for _, c := range []struct {
		k    int64
		part []int64
		text string
	}{
		{1, nil, "1,1:"}, {3, nil, "1,3:"}, {2, []int64{1}, "2,2:1"}, {3, []int64{0}, "2,3:0"}, {1, []int64{0, 0}, "3,1:0,00"},
		{2, []int64{0, 1, 1, 0}, "5,2:0,10,110,0110"}, {3, []int64{0, 1, 2}, "4,3:0,10,210"}, {3, []int64{2, 2, 0}, "4,3:2,22,022"},
	} {
		x, code := impl.ColouringOfPart(c.k, c.part)
		wantColouring(t, "ColouringOfPart", x, code, c.text, impl.ErrNone)
		part, code := impl.PartOfColouring(x)
		wantList(t, "PartOfColouring", part, code, c.part, impl.ErrNone)
	}
	for k := int64(1); k <= 3; k++ {
		for _, n := range []int64{0, 1, 15, 16, 17, 18, 39, 40, 41, 1000} {
			for seed := range uint64(3) {
				part := coloursMixed(n, k, seed)
				checkColouring(t, k, part)
			}
		}
	}
	x, code := impl.ColouringOfPart(2, []int64{0, 0, 1, 0, 1, 1, 1, 0, 0, 1, 1, 1, 0, 1, 0, 0})
	wantSame(t, "ColouringOfPart of 16 numbers", x, code, named(t, "seventeen"), impl.ErrNone)
}

func TestL07PartOfColouring(t *testing.T) {
	for _, c := range []struct {
		text string
		part []int64
		code int64
	}{
		{"1,1:", nil, impl.ErrNone}, {"1,2:", nil, impl.ErrNone}, {"1,3:", nil, impl.ErrNone}, {"1,4:", nil, impl.ErrRange},
		{"2,1:0", []int64{0}, impl.ErrNone}, {"2,3:2", []int64{2}, impl.ErrNone}, {"2,4:3", nil, impl.ErrRange}, {"2,4:0", nil, impl.ErrRange},
		{"3,2:0,01", nil, impl.ErrState}, {"3,2:0,10", []int64{0, 1}, impl.ErrNone}, {"3,3:1,21", []int64{1, 2}, impl.ErrNone},
		{"3,3:0,12", nil, impl.ErrState}, {"3,4:0,12", nil, impl.ErrRange}, {"3,4:0,00", nil, impl.ErrRange},
		{"4,2:0,10,010", []int64{0, 1, 0}, impl.ErrNone}, {"4,2:0,10,000", nil, impl.ErrState}, {"4,2:0,10,011", nil, impl.ErrState},
	} {
		part, code := impl.PartOfColouring(parsed(t, c.text))
		wantList(t, "PartOfColouring of "+c.text, part, code, c.part, c.code)
	}
	part, code := impl.PartOfColouring(named(t, "sixteen"))
	wantList(t, "PartOfColouring of sixteen", part, code, nil, impl.ErrState)
	part, code = impl.PartOfColouring(named(t, "thirteen"))
	wantList(t, "PartOfColouring of thirteen", part, code, []int64{0, 1, 1, 1, 0, 1, 1, 0, 1, 1, 1, 0}, impl.ErrNone)
	part, code = impl.PartOfColouring(named(t, "seventeen"))
	wantList(t, "PartOfColouring of seventeen", part, code, []int64{0, 0, 1, 0, 1, 1, 1, 0, 0, 1, 1, 1, 0, 1, 0, 0}, impl.ErrNone)
	for k := int64(1); k <= impl.MaxColours; k++ {
		part, code := impl.PartOfColouring(oneColour(17, k, byte(k-1)))
		if k <= 3 {
			wantList(t, "PartOfColouring of one colour", part, code, sameNumber(16, k-1), impl.ErrNone)
		} else {
			wantList(t, "PartOfColouring of 4 Colours", part, code, nil, impl.ErrRange)
		}
	}
	for what, x := range wrongColourings() {
		part, code := impl.PartOfColouring(x)
		wantList(t, "PartOfColouring: "+what, part, code, nil, impl.ErrInvalid)
	}
}

// With one edge changed, no colouring is of a part any more, but if no other edge has its difference.
func TestL07OneEdgeMatters(t *testing.T) {
	for n := int64(2); n <= impl.MaxPoints; n++ {
		for k := int64(2); k <= 3; k++ {
			part := coloursMixed(n-1, k, uint64(n))
			for j := range n {
				for i := range j {
					x, _ := impl.ColouringOfPart(k, part)
					c := (part[j-i-1] + 1) % k
					x.Edges[j*(j-1)/2+i] = byte(c)
					got, code := impl.PartOfColouring(x)
					if j-i < n-1 {
						wantList(t, "PartOfColouring with one edge changed", got, code, nil, impl.ErrState)
					} else {
						wantList(t, "PartOfColouring with the last difference changed", got, code, append(slices.Clone(part[:n-2]), c), impl.ErrNone)
					}
				}
			}
		}
	}
}

// Promise 17: colourings of parts without faults of the kind 0 have no triangle of one colour. A
// fault has as many of them as there are places for it, twice if x is not y.
func TestL07TrianglesAreFaults(t *testing.T) {
	everyPartCase(func(k int64, part []int64) {
		x, code := impl.ColouringOfPart(k, part)
		if code != impl.ErrNone {
			return
		}
		want := sameNumber(k, 0)
		for _, fault := range faultsByDefinition(part, 0, 1) {
			places := int64(len(part)) + 1 - fault[2]
			if fault[0] < fault[1] {
				places *= 2
			}
			want[part[fault[2]-1]] += places
		}
		triangles, code := impl.CountTriangles(x)
		wantList(t, "CountTriangles", triangles, code, want, impl.ErrNone)
		free, code := impl.IsFree(k, part, 0)
		wantBool(t, "IsFree", free, code, slices.Max(triangles) == 0, impl.ErrNone)
	})
	for k := int64(1); k <= 3; k++ {
		everyFree(13, k, 0, func(n int64, parts [][]int64) {
			for _, part := range parts {
				x, _ := impl.ColouringOfPart(k, part)
				is, code := impl.AvoidsSizes(x, sameNumber(k, 3))
				wantBool(t, "AvoidsSizes of a part without faults", is, code, true, impl.ErrNone)
			}
		})
	}
}

func TestL07ClassesAndReflections(t *testing.T) {
	class, code := impl.ClassOfColour(2, []int64{0, 1, 1, 0}, 0)
	wantList(t, "ClassOfColour", class, code, []int64{1, 4}, impl.ErrNone)
	class, code = impl.ClassOfColour(3, []int64{0, 1, 1, 0}, 2)
	wantList(t, "ClassOfColour of a colour that no number has", class, code, nil, impl.ErrNone)
	class, code = impl.ClassOfColour(1, nil, 0)
	wantList(t, "ClassOfColour of the empty part", class, code, nil, impl.ErrNone)
	class, code = impl.ClassOfColour(3, sameNumber(40, 2), 2)
	wantList(t, "ClassOfColour of MaxNumbers numbers", class, code, upTo(41)[1:], impl.ErrNone)
	for _, c := range []int64{-1, 2, 3, 256, 1 << 32, math.MinInt64, math.MaxInt64} {
		for _, part := range [][]int64{nil, {0, 1}, sameNumber(40, 1)} {
			class, code = impl.ClassOfColour(2, part, c)
			wantList(t, "ClassOfColour of a colour outside", class, code, nil, impl.ErrRange)
		}
	}
	class, code = impl.ClassOfColour(1, []int64{0}, 1)
	wantList(t, "ClassOfColour of a colour outside", class, code, nil, impl.ErrRange)
	class, code = impl.ClassOfColour(3, []int64{0}, 3)
	wantList(t, "ClassOfColour of a colour outside", class, code, nil, impl.ErrRange)
	reflected, code := impl.ReflectPart(1, nil)
	wantList(t, "ReflectPart of the empty part", reflected, code, nil, impl.ErrNone)
	reflected, code = impl.ReflectPart(3, []int64{2})
	wantList(t, "ReflectPart of one number", reflected, code, []int64{2}, impl.ErrNone)
	reflected, code = impl.ReflectPart(3, []int64{0, 1, 2, 2})
	wantList(t, "ReflectPart", reflected, code, []int64{2, 2, 1, 0}, impl.ErrNone)
	reflected, code = impl.ReflectPart(2, append(sameNumber(39, 0), 1))
	wantList(t, "ReflectPart of MaxNumbers numbers", reflected, code, append([]int64{1}, sameNumber(39, 0)...), impl.ErrNone)
}

// partCalls returns the functions of a part, each one as a function that returns whether its results
// are zero values, and its code. Those without a kind take it as a colour, or not at all.
func partCalls() map[string]func(k int64, part []int64, kind int64) (bool, int64) {
	return map[string]func(k int64, part []int64, kind int64) (bool, int64){
		"IsFree": func(k int64, part []int64, kind int64) (bool, int64) {
			free, code := impl.IsFree(k, part, kind)
			return !free, code
		},
		"FirstFault": func(k int64, part []int64, kind int64) (bool, int64) {
			first, code := impl.FirstFault(k, part, kind)
			return len(first) == 0, code
		},
		"CountFaults": func(k int64, part []int64, kind int64) (bool, int64) {
			count, code := impl.CountFaults(k, part, kind)
			return count == 0, code
		},
		"ColoursNext": func(k int64, part []int64, kind int64) (bool, int64) {
			colours, code := impl.ColoursNext(k, part, kind)
			return len(colours) == 0, code
		},
		"ClassOfColour": func(k int64, part []int64, c int64) (bool, int64) {
			class, code := impl.ClassOfColour(k, part, c)
			return len(class) == 0, code
		},
		"ColouringOfPart": func(k int64, part []int64, _ int64) (bool, int64) {
			x, code := impl.ColouringOfPart(k, part)
			return x == impl.Colouring{}, code
		},
		"ReflectPart": func(k int64, part []int64, _ int64) (bool, int64) {
			reflected, code := impl.ReflectPart(k, part)
			return len(reflected) == 0, code
		},
	}
}

// wrongNumbers returns numbers that are neither a number of colours nor a kind.
func wrongNumbers() []int64 {
	return []int64{-1, 4, 5, 17, 40, 256, 257, 1 << 32, 1<<32 + 1, math.MinInt64, math.MaxInt64}
}

// What is no part is told before all else: that it is not free, or has no fault, or goes on.
func TestL07WrongParts(t *testing.T) {
	wantRange := func(k int64, part []int64, kind int64) {
		t.Helper()
		for name, call := range partCalls() {
			if zero, code := call(k, part, kind); !zero || code != impl.ErrRange {
				t.Errorf("%s of %d, %v and %d returns %v and %d", name, k, part, kind, zero, code)
			}
		}
	}
	for kind := int64(-1); kind <= 3; kind++ {
		for _, k := range append(wrongNumbers(), 0) {
			for _, part := range [][]int64{nil, {0}, {0, 0, 0}, {0, 1, 1, 0}, sameNumber(40, 0), sameNumber(41, 0)} {
				wantRange(k, part, kind)
			}
		}
		for k := int64(1); k <= 3; k++ {
			wantRange(k, sameNumber(41, k-1), kind)
			wantRange(k, make([]int64, 1000), kind)
			for _, wrong := range append(wrongNumbers(), k) {
				for _, part := range [][]int64{{wrong}, {0, wrong}, {wrong, 0, 0}, {0, 0, wrong, 0}, append(sameNumber(15, 0), wrong), append(sameNumber(39, 0), wrong)} {
					wantRange(k, part, kind)
				}
			}
		}
	}
}

func TestL07WrongKinds(t *testing.T) {
	calls := partCalls()
	for _, name := range []string{"IsFree", "FirstFault", "CountFaults", "ColoursNext"} {
		for _, kind := range append(wrongNumbers(), 3) {
			for k := int64(1); k <= 3; k++ {
				for _, part := range [][]int64{nil, {0}, {0, 0, 0}, sameNumber(39, 0), sameNumber(40, k-1)} {
					if zero, code := calls[name](k, part, kind); !zero || code != impl.ErrRange {
						t.Errorf("%s of %d, %v and %d returns %v and %d", name, k, part, kind, zero, code)
					}
				}
			}
		}
	}
}

// The limits of a part are not those of a search.
func TestL07PartsAtTheLimits(t *testing.T) {
	for k := int64(1); k <= 3; k++ {
		part := coloursMixed(40, k, 3)
		for name, call := range partCalls() {
			want := int64(impl.ErrNone)
			if name == "ColoursNext" || name == "ColouringOfPart" {
				want = impl.ErrRange
			}
			if _, code := call(k, part, 0); code != want {
				t.Errorf("%s of MaxNumbers numbers returns the code %d", name, code)
			}
		}
	}
}

func TestL07WrongSearches(t *testing.T) {
	wantRange := func(n int64, k int64, kind int64) {
		t.Helper()
		soon(t, "a search out of range", func() {
			first, code := impl.FirstFree(n, k, kind)
			wantList(t, "FirstFree out of range", first, code, nil, impl.ErrRange)
			count, code := impl.CountFree(n, k, kind)
			wantNumber(t, "CountFree out of range", count, code, 0, impl.ErrRange)
		})
	}
	for _, n := range []int64{-1, -5, 15, 16, 40, 41, 64, 1 << 32, math.MinInt64, math.MaxInt64} {
		for k := int64(1); k <= 3; k++ {
			for kind := range int64(3) {
				wantRange(n, k, kind)
			}
		}
	}
	for _, wrong := range wrongNumbers() {
		// With 14 numbers there is none for one colour, but this is not told.
		for _, n := range []int64{0, 1, 4, 12, 14} {
			wantRange(n, wrong, 0)
			wantRange(n, 1, wrong)
			wantRange(n, wrong, wrong)
		}
	}
	wantRange(4, 0, 0)
	wantRange(0, 0, 0)
	wantRange(4, 2, 3)
	wantRange(0, 2, 3)
}

// The searches that take longest.
func TestL07SearchesReturnSoon(t *testing.T) {
	for kind := range int64(3) {
		for k := int64(1); k <= 3; k++ {
			soon(t, "a search", func() {
				impl.FirstFree(14, k, kind)
				impl.CountFree(12, k, kind)
				impl.GreatestFree(k, kind)
			})
		}
	}
}

func TestL07ListsStayAsTheyAre(t *testing.T) {
	for _, list := range [][]int64{nil, {0}, {0, 1}, {0, 1, 1}, {0, 1, 1, 0}, {0, 0}, {0, 1, 2, 0, 1}, {1, 9}, sameNumber(16, 0), coloursMixed(39, 3, 1), coloursMixed(40, 3, 1)} {
		given := withSpare(list...)
		for k := int64(0); k <= 4; k++ {
			for kind := int64(-1); kind <= 3; kind++ {
				for name, call := range partCalls() {
					call(k, given, kind)
					if !slices.Equal(given[:len(list)+3], append(slices.Clone(list), 77, 77, 77)) {
						t.Fatalf("%s changes %v to %v", name, list, given[:len(list)+3])
					}
				}
			}
		}
	}
}

// Writing to a result, or behind it, must not show in an argument or in another result.
func TestL07ResultsAreNew(t *testing.T) {
	part := []int64{0, 1, 1, 0, 2}
	x, _ := impl.ColouringOfPart(3, part)
	for name, call := range map[string]func() []int64{
		"FirstFault":      func() []int64 { list, _ := impl.FirstFault(3, part[:3], 2); return list },
		"FirstFaultOf":    func() []int64 { list, _ := impl.FirstFault(1, []int64{0, 0, 0}, 2); return list },
		"ColoursNext":     func() []int64 { list, _ := impl.ColoursNext(3, part, 0); return list },
		"FirstFree":       func() []int64 { list, _ := impl.FirstFree(7, 3, 0); return list },
		"PartOfColouring": func() []int64 { list, _ := impl.PartOfColouring(x); return list },
		"ReflectPart":     func() []int64 { list, _ := impl.ReflectPart(3, part); return list },
		"ReflectPartOne":  func() []int64 { list, _ := impl.ReflectPart(3, part[:1]); return list },
		"ClassOfColour":   func() []int64 { list, _ := impl.ClassOfColour(3, part, 1); return list },
	} {
		first := call()
		kept := slices.Clone(first)
		for i := range first[:cap(first)] {
			first[:cap(first)][i] = 99
		}
		if second := call(); !slices.Equal(second, kept) || !slices.Equal(part, []int64{0, 1, 1, 0, 2}) {
			t.Errorf("a result of %s is changed: %v and %v, and the part %v", name, second, kept, part)
		}
	}
}

// Whatever a search starts has ended when it returns, or ends at once.
func TestL07SearchesLeaveNothingRunning(t *testing.T) {
	before := runtime.NumGoroutine()
	for range 300 {
		impl.FirstFree(13, 3, 0)
		impl.CountFree(6, 3, 1)
		impl.GreatestFree(2, 2)
	}
	for range 100000 {
		if runtime.NumGoroutine() <= before {
			return
		}
		runtime.Gosched()
	}
	t.Errorf("%d goroutines before, %d after", before, runtime.NumGoroutine())
}

// Searches give the same results whether others go on beside them or not.
func TestL07SearchesBesideEachOther(t *testing.T) {
	want, _ := impl.FirstFree(14, 3, 1)
	wantCount, _ := impl.CountFree(9, 3, 2)
	results := make(chan bool)
	for range 8 {
		go func() {
			first, _ := impl.FirstFree(14, 3, 1)
			count, _ := impl.CountFree(9, 3, 2)
			results <- slices.Equal(first, want) && count == wantCount
		}()
	}
	for range 8 {
		if !<-results {
			t.Errorf("a search beside others finds something else")
		}
	}
}
