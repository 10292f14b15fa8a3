package tests

import (
	"math"
	"runtime"
	"slices"
	"testing"

	"loop.example/g01362/impl"
)

// wantSame checks a colouring.
func wantSame(t *testing.T, what string, x impl.Colouring, code int64, want impl.Colouring, wantCode int64) {
	t.Helper()
	if code != wantCode || x != want {
		t.Errorf("%s returns %v and %d, not %v and %d", what, x, code, want, wantCode)
	}
}

// stepsBetween returns the distance of two points of n points: the fewest steps round the circle.
func stepsBetween(n int64, i int64, j int64) int64 {
	up, down := int64(0), int64(0)
	for p := i; p != j; p = (p + 1) % n {
		up++
	}
	for p := i; p != j; p = (p + n - 1) % n {
		down++
	}
	return min(up, down)
}

// digitsBetween returns the difference of two points, digit by digit in base 2.
func digitsBetween(i int64, j int64) int64 {
	difference := int64(0)
	for digit := int64(1); digit <= 8; digit *= 2 {
		if i/digit%2 != j/digit%2 {
			difference += digit
		}
	}
	return difference
}

// byRule returns the colouring in which a rule tells the colour of each edge.
func byRule(n int64, k int64, rule func(i int64, j int64) int64) impl.Colouring {
	x := impl.Colouring{Points: n, Colours: k}
	for j := range n {
		for i := range j {
			x.Edges[j*(j-1)/2+i] = byte(rule(i, j))
		}
	}
	return x
}

// circularByDefinition returns the circular colouring with a list.
func circularByDefinition(n int64, k int64, list []int64) impl.Colouring {
	return byRule(n, k, func(i int64, j int64) int64 { return list[stepsBetween(n, i, j)-1] })
}

// digitalByDefinition returns the digital colouring of n points with a list.
func digitalByDefinition(n int64, k int64, list []int64) impl.Colouring {
	return byRule(n, k, func(i int64, j int64) int64 { return list[digitsBetween(i, j)-1] })
}

// coloursMixed returns a list of colours that follows no simple pattern; it is the same one for the
// same arguments.
func coloursMixed(length int64, k int64, seed uint64) []int64 {
	list := make([]int64, length)
	for place := range list {
		list[place] = mixedList(k, seed*97+uint64(place)*13)[0]
	}
	return list
}

// coloursNumbered returns the list of colours 0 and 1 with a number, in lexicographic order.
func coloursNumbered(length int64, number int64) []int64 {
	list := make([]int64, length)
	for place := length - 1; place >= 0; place-- {
		list[place] = number % 2
		number /= 2
	}
	return list
}

// everyListOf calls a function with lists of k colours: those of one colour, those with one colour
// that differs at one place, and mixed ones.
func everyListOf(length int64, k int64, use func(list []int64)) {
	for c := range k {
		use(sameNumber(length, c))
		for place := range length {
			list := sameNumber(length, c)
			list[place] = (c + 1) % k
			use(list)
		}
	}
	for seed := range uint64(5) {
		use(coloursMixed(length, k, seed))
	}
}

// everyCircular calls a function with circular colourings of all shapes, and their lists.
func everyCircular(use func(x impl.Colouring, list []int64)) {
	for n := int64(2); n <= impl.MaxPoints; n++ {
		for k := int64(1); k <= impl.MaxColours; k++ {
			everyListOf(n/2, k, func(list []int64) { use(circularByDefinition(n, k, list), list) })
		}
	}
}

// everyDigital calls a function with digital colourings of all shapes, their numbers of digits and
// their lists.
func everyDigital(use func(x impl.Colouring, d int64, list []int64)) {
	for d := int64(1); d <= impl.MaxDigits; d++ {
		for k := int64(1); k <= impl.MaxColours; k++ {
			n := []int64{1, 2, 4, 8, 16}[d]
			everyListOf(n-1, k, func(list []int64) { use(digitalByDefinition(n, k, list), d, list) })
		}
	}
}

// listByDefinition returns the list of a colouring, and whether each two edges with the same
// difference have the same colour.
func listByDefinition(x impl.Colouring, length int64, difference func(i int64, j int64) int64) ([]int64, bool) {
	list := sameNumber(length, -1)
	for j := range x.Points {
		for i := range j {
			place := difference(i, j) - 1
			if list[place] >= 0 && list[place] != colourIn(x, i, j) {
				return nil, false
			}
			list[place] = colourIn(x, i, j)
		}
	}
	return list, true
}

// circularListByDefinition returns the list of a circular colouring, and whether it is one.
func circularListByDefinition(x impl.Colouring) ([]int64, bool) {
	if x.Points < 2 {
		return nil, false
	}
	return listByDefinition(x, x.Points/2, func(i int64, j int64) int64 { return stepsBetween(x.Points, i, j) })
}

// digitalListByDefinition returns the list of a digital colouring, and whether it is one.
func digitalListByDefinition(x impl.Colouring) ([]int64, bool) {
	if !slices.Contains([]int64{2, 4, 8, 16}, x.Points) {
		return nil, false
	}
	return listByDefinition(x, x.Points-1, digitsBetween)
}

// areCoprime reports whether no number greater than 1 divides both numbers.
func areCoprime(a int64, b int64) bool {
	for divisor := int64(2); divisor <= a; divisor++ {
		if a%divisor == 0 && b%divisor == 0 {
			return false
		}
	}
	return true
}

func TestL03MaxDigits(t *testing.T) {
	if impl.MaxDigits != 4 {
		t.Errorf("MaxDigits is %d", impl.MaxDigits)
	}
}

// Promise 3: circular colourings come back from their lists.
func TestL03CircularColouringsComeBack(t *testing.T) {
	everyCircular(func(want impl.Colouring, list []int64) {
		x, code := impl.CircularOf(want.Points, want.Colours, list)
		wantSame(t, "CircularOf", x, code, want, impl.ErrNone)
		back, code := impl.ListOfCircular(x)
		wantList(t, "ListOfCircular", back, code, list, impl.ErrNone)
	})
}

// Promise 3: digital colourings come back from their lists.
func TestL03DigitalColouringsComeBack(t *testing.T) {
	everyDigital(func(want impl.Colouring, d int64, list []int64) {
		x, code := impl.DigitalOf(d, want.Colours, list)
		wantSame(t, "DigitalOf", x, code, want, impl.ErrNone)
		back, code := impl.ListOfDigital(x)
		wantList(t, "ListOfDigital", back, code, list, impl.ErrNone)
	})
}

func TestL03Examples(t *testing.T) {
	x, code := impl.CircularOf(5, 2, []int64{0, 1})
	wantSame(t, "CircularOf", x, code, named(t, "pentagon"), impl.ErrNone)
	x, code = impl.CircularOf(2, 1, []int64{0})
	wantColouring(t, "CircularOf of two points", x, code, "2,1:0", impl.ErrNone)
	x, code = impl.CircularOf(4, 3, []int64{2, 1})
	wantColouring(t, "CircularOf of an even n", x, code, "4,3:2,12,212", impl.ErrNone)
	x, code = impl.CircularOf(17, 2, []int64{0, 0, 1, 0, 1, 1, 1, 0})
	wantSame(t, "CircularOf of 17 points", x, code, named(t, "seventeen"), impl.ErrNone)
	x, code = impl.DigitalOf(1, 4, []int64{3})
	wantColouring(t, "DigitalOf of one digit", x, code, "2,4:3", impl.ErrNone)
	x, code = impl.DigitalOf(2, 3, []int64{0, 1, 2})
	wantColouring(t, "DigitalOf of two digits", x, code, "4,3:0,12,210", impl.ErrNone)
	x, code = impl.DigitalOf(4, 3, []int64{0, 1, 1, 2, 2, 2, 1, 0, 2, 0, 1, 0, 1, 2, 0})
	wantSame(t, "DigitalOf of four digits", x, code, named(t, "sixteen"), impl.ErrNone)
	list, code := impl.ListOfCircular(named(t, "eight"))
	wantList(t, "ListOfCircular of eight", list, code, []int64{0, 1, 1, 0}, impl.ErrNone)
	list, code = impl.ListOfCircular(named(t, "thirteen"))
	wantList(t, "ListOfCircular of thirteen", list, code, []int64{0, 1, 1, 1, 0, 1}, impl.ErrNone)
	list, code = impl.ListOfCircular(named(t, "sixteen"))
	wantList(t, "ListOfCircular of sixteen", list, code, nil, impl.ErrState)
	for _, name := range []string{"pentagon", "eight", "thirteen", "seventeen"} {
		list, code = impl.ListOfDigital(named(t, name))
		wantList(t, "ListOfDigital of "+name, list, code, nil, impl.ErrState)
	}
}

// argumentCase has a number of points or of digits, a number of colours, and a list.
type argumentCase struct {
	n, k int64
	list []int64
}

func TestL03CircularOfErrors(t *testing.T) {
	for _, c := range []argumentCase{
		{1, 2, nil}, {1, 1, []int64{0}}, {0, 2, nil}, {-1, 2, nil}, {-4, 2, []int64{0, 0}}, {18, 2, make([]int64, 9)},
		{math.MinInt64, 2, nil}, {math.MaxInt64, 2, nil}, {1<<32 + 5, 2, []int64{0, 1}},
		{5, 0, []int64{0, 0}}, {5, -1, []int64{0, 0}}, {5, 5, []int64{0, 0}}, {5, math.MaxInt64, []int64{0, 0}}, {5, math.MinInt64, []int64{0, 0}},
		{2, 2, nil}, {5, 2, []int64{0}}, {5, 2, []int64{0, 1, 0}}, {6, 2, []int64{0, 1}}, {6, 2, make([]int64, 4)}, {7, 2, make([]int64, 4)},
		{16, 2, make([]int64, 7)}, {16, 2, make([]int64, 9)}, {17, 2, make([]int64, 7)}, {17, 2, make([]int64, 9)}, {17, 2, make([]int64, 1000)},
		{5, 2, []int64{0, 2}}, {5, 2, []int64{2, 0}}, {5, 2, []int64{-1, 0}}, {5, 2, []int64{0, -1}}, {5, 4, []int64{0, 4}}, {2, 1, []int64{1}},
		{5, 4, []int64{256, 0}}, {5, 4, []int64{0, math.MaxInt64}}, {5, 4, []int64{math.MinInt64, 0}}, {17, 3, []int64{0, 0, 0, 0, 0, 0, 0, 3}},
	} {
		x, code := impl.CircularOf(c.n, c.k, c.list)
		wantSame(t, "CircularOf out of range", x, code, impl.Colouring{}, impl.ErrRange)
	}
}

func TestL03DigitalOfErrors(t *testing.T) {
	for _, c := range []argumentCase{
		{0, 2, nil}, {0, 2, []int64{0}}, {-1, 2, nil}, {5, 2, make([]int64, 31)}, {63, 2, nil}, {64, 2, nil}, {math.MinInt64, 2, nil}, {math.MaxInt64, 2, nil},
		{1<<32 + 2, 2, []int64{0, 1, 0}}, {2, 0, make([]int64, 3)}, {2, -1, make([]int64, 3)}, {2, 5, make([]int64, 3)},
		{2, math.MaxInt64, make([]int64, 3)}, {2, math.MinInt64, make([]int64, 3)},
		{1, 2, nil}, {1, 2, make([]int64, 2)}, {2, 2, make([]int64, 2)}, {2, 2, make([]int64, 4)}, {3, 2, make([]int64, 6)}, {3, 2, make([]int64, 8)},
		{4, 2, make([]int64, 14)}, {4, 2, make([]int64, 16)}, {4, 2, nil}, {4, 2, make([]int64, 1000)},
		{2, 2, []int64{0, 1, 2}}, {2, 2, []int64{2, 0, 1}}, {2, 2, []int64{0, -1, 0}}, {2, 4, []int64{0, 1, 4}}, {1, 1, []int64{1}},
		{2, 4, []int64{256, 0, 0}}, {2, 4, []int64{0, 0, math.MaxInt64}}, {2, 4, []int64{math.MinInt64, 0, 0}}, {4, 3, append(make([]int64, 14), 3)},
	} {
		x, code := impl.DigitalOf(c.n, c.k, c.list)
		wantSame(t, "DigitalOf out of range", x, code, impl.Colouring{}, impl.ErrRange)
	}
}

// checkLists compares both lists of a colouring, or that there is none, with the definitions.
func checkLists(t *testing.T, x impl.Colouring) {
	t.Helper()
	wantCode := map[bool]int64{true: impl.ErrNone, false: impl.ErrState}
	want, is := circularListByDefinition(x)
	list, code := impl.ListOfCircular(x)
	wantList(t, "ListOfCircular", list, code, want, wantCode[is])
	want, is = digitalListByDefinition(x)
	list, code = impl.ListOfDigital(x)
	wantList(t, "ListOfDigital", list, code, want, wantCode[is])
}

func TestL03ListsAgainstTheDefinition(t *testing.T) {
	for n := int64(1); n <= 5; n++ {
		used := n * (n - 1) / 2
		for number := range int64(1) << used {
			x := impl.Colouring{Points: n, Colours: 2}
			for e, c := range coloursNumbered(used, number) {
				x.Edges[e] = byte(c)
			}
			checkLists(t, x)
		}
	}
	everyShape(func(x impl.Colouring) { checkLists(t, x) })
	everyCircular(func(x impl.Colouring, _ []int64) { checkLists(t, x) })
	everyDigital(func(x impl.Colouring, _ int64, _ []int64) { checkLists(t, x) })
}

// With one edge changed, no colouring of more than two points is circular any more, and none of
// more than two digital.
func TestL03OneEdgeMatters(t *testing.T) {
	for n := int64(3); n <= impl.MaxPoints; n++ {
		for e := range n * (n - 1) / 2 {
			for k := int64(2); k <= impl.MaxColours; k++ {
				x := circularByDefinition(n, k, coloursMixed(n/2, k, uint64(e)))
				x.Edges[e] = byte((int64(x.Edges[e]) + 1) % k)
				list, code := impl.ListOfCircular(x)
				wantList(t, "ListOfCircular with one edge changed", list, code, nil, impl.ErrState)
				list, code = impl.MultipliersOf(x)
				wantList(t, "MultipliersOf with one edge changed", list, code, nil, impl.ErrState)
				if n == 4 || n == 8 || n == 16 {
					x = digitalByDefinition(n, k, coloursMixed(n-1, k, uint64(e)))
					x.Edges[e] = byte((int64(x.Edges[e]) + 1) % k)
					list, code = impl.ListOfDigital(x)
					wantList(t, "ListOfDigital with one edge changed", list, code, nil, impl.ErrState)
				}
			}
		}
	}
}

// One point is neither circular nor digital, two points are both.
func TestL03FewPoints(t *testing.T) {
	for k := int64(1); k <= impl.MaxColours; k++ {
		x := oneColour(1, k, 0)
		list, code := impl.ListOfCircular(x)
		wantList(t, "ListOfCircular of one point", list, code, nil, impl.ErrState)
		list, code = impl.ListOfDigital(x)
		wantList(t, "ListOfDigital of one point", list, code, nil, impl.ErrState)
		list, code = impl.MultipliersOf(x)
		wantList(t, "MultipliersOf of one point", list, code, nil, impl.ErrState)
		is, code := impl.IsBalanced(x)
		wantBool(t, "IsBalanced of one point", is, code, true, impl.ErrNone)
		for c := range k {
			x := oneColour(2, k, byte(c))
			list, code := impl.ListOfCircular(x)
			wantList(t, "ListOfCircular of two points", list, code, []int64{c}, impl.ErrNone)
			list, code = impl.ListOfDigital(x)
			wantList(t, "ListOfDigital of two points", list, code, []int64{c}, impl.ErrNone)
			list, code = impl.MultipliersOf(x)
			wantList(t, "MultipliersOf of two points", list, code, []int64{1}, impl.ErrNone)
			is, code := impl.IsBalanced(x)
			wantBool(t, "IsBalanced of two points", is, code, true, impl.ErrNone)
		}
	}
}

// squaresBy returns the rests of the squares by p that are not 0, ascending.
func squaresBy(p int64) []int64 {
	var squares []int64
	for rest := int64(1); rest < p; rest++ {
		for root := range p {
			if root*root%p == rest {
				squares = append(squares, rest)
				break
			}
		}
	}
	return squares
}

func TestL03BySquares(t *testing.T) {
	for p := int64(-40); p <= 120; p++ {
		want, wantCode := impl.Colouring{}, int64(impl.ErrRange)
		if p == 5 || p == 13 || p == 17 {
			squares := squaresBy(p)
			want, wantCode = byRule(p, 2, func(i int64, j int64) int64 {
				if slices.Contains(squares, j-i) {
					return 0
				}
				return 1
			}), impl.ErrNone
		}
		x, code := impl.BySquares(p)
		wantSame(t, "BySquares", x, code, want, wantCode)
	}
	x, code := impl.BySquares(5)
	wantSame(t, "BySquares of 5", x, code, named(t, "pentagon"), impl.ErrNone)
	x, code = impl.BySquares(17)
	wantSame(t, "BySquares of 17", x, code, named(t, "seventeen"), impl.ErrNone)
	x, _ = impl.BySquares(13)
	list, code := impl.ListOfCircular(x)
	wantList(t, "ListOfCircular of the squares by 13", list, code, []int64{0, 1, 0, 0, 1, 1}, impl.ErrNone)
	for _, p := range []int64{math.MinInt64, math.MaxInt64, 1<<32 + 5, 1<<8 + 13} {
		x, code := impl.BySquares(p)
		wantSame(t, "BySquares", x, code, impl.Colouring{}, impl.ErrRange)
	}
}

// The guarantee of the chapter: turned by a number that is no square, a colouring by squares
// exchanges its colours; turned by a square, it stays.
func TestL03SquaresExchangeTheirColours(t *testing.T) {
	for _, p := range []int64{5, 13, 17} {
		x, _ := impl.BySquares(p)
		exchanged, _ := impl.ExchangeColours(x, []int64{1, 0})
		squares := squaresBy(p)
		for n := int64(1); n < p; n++ {
			want := exchanged
			if slices.Contains(squares, n) {
				want = x
			}
			y, code := impl.TurnColouring(x, n)
			wantSame(t, "TurnColouring of squares", y, code, want, impl.ErrNone)
		}
		list, code := impl.MultipliersOf(x)
		wantList(t, "MultipliersOf of squares", list, code, squares, impl.ErrNone)
	}
}

// multipliersByDefinition returns the multipliers of a circular colouring with a list.
func multipliersByDefinition(n int64, list []int64) []int64 {
	var multipliers []int64
	for m := int64(1); m < n; m++ {
		right := areCoprime(m, n)
		for d := int64(1); right && d <= n/2; d++ {
			right = list[d-1] == list[stepsBetween(n, 0, m*d%n)-1]
		}
		if right {
			multipliers = append(multipliers, m)
		}
	}
	return multipliers
}

func TestL03MultipliersAgainstTheDefinition(t *testing.T) {
	everyCircular(func(x impl.Colouring, list []int64) {
		multipliers, code := impl.MultipliersOf(x)
		wantList(t, "MultipliersOf", multipliers, code, multipliersByDefinition(x.Points, list), impl.ErrNone)
	})
	for n := int64(2); n <= impl.MaxPoints; n++ {
		for number := range int64(1) << (n / 2) {
			list := coloursNumbered(n/2, number)
			multipliers, code := impl.MultipliersOf(circularByDefinition(n, 2, list))
			wantList(t, "MultipliersOf", multipliers, code, multipliersByDefinition(n, list), impl.ErrNone)
		}
	}
	list, code := impl.MultipliersOf(named(t, "pentagon"))
	wantList(t, "MultipliersOf of pentagon", list, code, []int64{1, 4}, impl.ErrNone)
	list, code = impl.MultipliersOf(named(t, "thirteen"))
	wantList(t, "MultipliersOf of thirteen", list, code, []int64{1, 5, 8, 12}, impl.ErrNone)
	// Each number without a common divisor is a multiplier of one colour, and no other one.
	list, code = impl.MultipliersOf(oneColour(12, 4, 3))
	wantList(t, "MultipliersOf of one colour", list, code, []int64{1, 5, 7, 11}, impl.ErrNone)
	list, code = impl.MultipliersOf(oneColour(17, 1, 0))
	wantList(t, "MultipliersOf of 17 points", list, code, upTo(17)[1:], impl.ErrNone)
	list, code = impl.MultipliersOf(named(t, "sixteen"))
	wantList(t, "MultipliersOf of sixteen", list, code, nil, impl.ErrState)
}

// Promise 3: colourings turned by multipliers stay, and by other numbers they do not.
func TestL03TurnedByMultipliersStay(t *testing.T) {
	everyCircular(func(x impl.Colouring, _ []int64) {
		multipliers, code := impl.MultipliersOf(x)
		if code != impl.ErrNone || !slices.Contains(multipliers, 1) || !slices.Contains(multipliers, x.Points-1) {
			t.Errorf("MultipliersOf(%v) = %v, %d", x, multipliers, code)
		}
		for n := int64(1); n < x.Points; n++ {
			y, code := impl.TurnColouring(x, n)
			if slices.Contains(multipliers, n) != (code == impl.ErrNone && y == x) {
				t.Errorf("TurnColouring(%v, %d) = %v, %d; the multipliers are %v", x, n, y, code, multipliers)
			}
		}
	})
}

func TestL03TurnColouring(t *testing.T) {
	use := func(x impl.Colouring) {
		n := x.Points
		for m := int64(-2); m <= 2*n+2; m++ {
			want, wantCode := impl.Colouring{}, int64(impl.ErrRange)
			if 1 <= m && m < n && areCoprime(m, n) || n == 1 && m == 1 {
				want, wantCode = impl.Colouring{Points: n, Colours: x.Colours}, impl.ErrNone
				for j := range n {
					for i := range j {
						low, high := min(m*i%n, m*j%n), max(m*i%n, m*j%n)
						want.Edges[high*(high-1)/2+low] = byte(colourIn(x, i, j))
					}
				}
			}
			y, code := impl.TurnColouring(x, m)
			wantSame(t, "TurnColouring", y, code, want, wantCode)
		}
	}
	everyShape(use)
	x, code := impl.TurnColouring(parsed(t, "5,4:0,12,301,2301"), 2)
	wantColouring(t, "TurnColouring by 2", x, code, "5,4:3,00,213,1120", impl.ErrNone)
	x, code = impl.TurnColouring(parsed(t, "1,4:"), 1)
	wantColouring(t, "TurnColouring of one point", x, code, "1,4:", impl.ErrNone)
	x, code = impl.TurnColouring(parsed(t, "2,4:3"), 1)
	wantColouring(t, "TurnColouring of two points", x, code, "2,4:3", impl.ErrNone)
	for _, m := range []int64{math.MinInt64, math.MaxInt64, math.MinInt64 + 1, 1<<32 + 1, -1, 0, 8, 9} {
		x, code := impl.TurnColouring(named(t, "eight"), m)
		wantSame(t, "TurnColouring out of range", x, code, impl.Colouring{}, impl.ErrRange)
		x, code = impl.TurnColouring(oneColour(1, 2, 0), m)
		wantSame(t, "TurnColouring of one point out of range", x, code, impl.Colouring{}, impl.ErrRange)
	}
}

// sizedCase has a circular colouring of two colours and its clique numbers, by the definition.
type sizedCase struct {
	x       impl.Colouring
	numbers [2]int
}

// circularCases returns all circular colourings of n points with two colours, in the order of
// their lists.
func circularCases(n int64) []sizedCase {
	var cases []sizedCase
	for number := range int64(1) << (n / 2) {
		one := sizedCase{x: circularByDefinition(n, 2, coloursNumbered(n/2, number))}
		for c := range int64(2) {
			for _, clique := range cliquesByDefinition(one.x, c) {
				one.numbers[c] = max(one.numbers[c], len(clique))
			}
		}
		cases = append(cases, one)
	}
	return cases
}

// avoiding returns the colourings of cases that avoid two sizes.
func avoiding(cases []sizedCase, sizes []int64) []impl.Colouring {
	var found []impl.Colouring
	for _, one := range cases {
		if int64(one.numbers[0]) < sizes[0] && int64(one.numbers[1]) < sizes[1] {
			found = append(found, one.x)
		}
	}
	return found
}

// everyPair calls a function with all pairs of sizes in 2..6.
func everyPair(use func(sizes []int64)) {
	for first := int64(2); first <= 6; first++ {
		for second := int64(2); second <= 6; second++ {
			use([]int64{first, second})
		}
	}
}

// Promise 15: first circular colourings avoid sizes. The searches are compared with the definition.
func TestL03SearchesAgainstTheDefinition(t *testing.T) {
	cases := map[int64][]sizedCase{}
	for n := int64(2); n <= 13; n++ {
		cases[n] = circularCases(n)
	}
	everyPair(func(sizes []int64) {
		greatest, greatestCode := int64(0), int64(impl.ErrNotFound)
		for n := int64(2); n <= 13; n++ {
			want := avoiding(cases[n], sizes)
			count, code := impl.CountCircular(n, sizes)
			wantNumber(t, "CountCircular", count, code, int64(len(want)), impl.ErrNone)
			first, code := impl.FirstCircular(n, sizes)
			if len(want) == 0 {
				wantSame(t, "FirstCircular", first, code, impl.Colouring{}, impl.ErrNotFound)
				continue
			}
			wantSame(t, "FirstCircular", first, code, want[0], impl.ErrNone)
			avoids, code := impl.AvoidsSizes(first, sizes)
			wantBool(t, "AvoidsSizes of a first circular colouring", avoids, code, true, impl.ErrNone)
			greatest, greatestCode = n, impl.ErrNone
		}
		n, code := impl.GreatestCircular(sizes)
		wantNumber(t, "GreatestCircular", n, code, greatest, greatestCode)
	})
}

func TestL03KnownSearches(t *testing.T) {
	x, code := impl.FirstCircular(5, []int64{3, 3})
	wantSame(t, "FirstCircular of 3, 3", x, code, named(t, "pentagon"), impl.ErrNone)
	x, code = impl.FirstCircular(8, []int64{3, 4})
	wantSame(t, "FirstCircular of 3, 4", x, code, named(t, "eight"), impl.ErrNone)
	x, code = impl.FirstCircular(9, []int64{3, 4})
	wantSame(t, "FirstCircular of too many points", x, code, impl.Colouring{}, impl.ErrNotFound)
	x, code = impl.FirstCircular(2, []int64{2, 2})
	wantSame(t, "FirstCircular of 2, 2", x, code, impl.Colouring{}, impl.ErrNotFound)
	x, code = impl.FirstCircular(2, []int64{2, 3})
	wantColouring(t, "FirstCircular of 2, 3", x, code, "2,2:1", impl.ErrNone)
	x, code = impl.FirstCircular(2, []int64{6, 6})
	wantColouring(t, "FirstCircular of two points", x, code, "2,2:0", impl.ErrNone)
	count, code := impl.CountCircular(5, []int64{3, 3})
	wantNumber(t, "CountCircular of 3, 3", count, code, 2, impl.ErrNone)
	count, code = impl.CountCircular(2, []int64{6, 6})
	wantNumber(t, "CountCircular of two points", count, code, 2, impl.ErrNone)
	count, code = impl.CountCircular(6, []int64{3, 3})
	wantNumber(t, "CountCircular of none", count, code, 0, impl.ErrNone)
	for _, c := range [][3]int64{{3, 3, 5}, {3, 4, 8}, {4, 3, 8}, {3, 5, 13}, {2, 3, 2}, {3, 2, 2}, {2, 6, 5}, {6, 2, 5}, {6, 6, 13}} {
		n, code := impl.GreatestCircular(c[:2])
		wantNumber(t, "GreatestCircular", n, code, c[2], impl.ErrNone)
	}
	// 3 points have none with two colours, although 5 points have.
	x, code = impl.FirstCircular(3, []int64{3, 3})
	wantSame(t, "FirstCircular of 3 points", x, code, impl.Colouring{}, impl.ErrNotFound)
	n, code := impl.GreatestCircular([]int64{2, 2})
	wantNumber(t, "GreatestCircular of 2, 2", n, code, 0, impl.ErrNotFound)
}

func TestL03SearchErrors(t *testing.T) {
	for _, sizes := range [][]int64{
		nil, {}, {3}, {3, 3, 3}, {1, 3}, {3, 1}, {7, 3}, {3, 7}, {0, 3}, {3, -3}, {math.MaxInt64, 3}, {3, math.MinInt64}, {1<<32 + 3, 3}, {3, 1<<32 + 3},
		{2}, {2, 2, 2}, {1, 1}, {7, 7}, make([]int64, 1000),
	} {
		for _, n := range []int64{5, 2, 13, 1} {
			count, code := impl.CountCircular(n, sizes)
			wantNumber(t, "CountCircular of wrong sizes", count, code, 0, impl.ErrRange)
			x, code := impl.FirstCircular(n, sizes)
			wantSame(t, "FirstCircular of wrong sizes", x, code, impl.Colouring{}, impl.ErrRange)
		}
		n, code := impl.GreatestCircular(sizes)
		wantNumber(t, "GreatestCircular of wrong sizes", n, code, 0, impl.ErrRange)
	}
	for _, n := range []int64{1, 0, -1, 14, 17, 18, math.MinInt64, math.MaxInt64, 1<<32 + 5} {
		// Sizes of 2 are avoided by none, but ErrRange comes first.
		for _, sizes := range [][]int64{{3, 3}, {6, 6}, {2, 2}} {
			count, code := impl.CountCircular(n, sizes)
			wantNumber(t, "CountCircular of a wrong n", count, code, 0, impl.ErrRange)
			x, code := impl.FirstCircular(n, sizes)
			wantSame(t, "FirstCircular of a wrong n", x, code, impl.Colouring{}, impl.ErrRange)
		}
	}
}

// isBalancedByDefinition reports whether all points have the same degrees.
func isBalancedByDefinition(x impl.Colouring) bool {
	var first [impl.MaxColours]int64
	for i := range x.Points {
		var degrees [impl.MaxColours]int64
		for j := range x.Points {
			if i != j {
				degrees[colourIn(x, i, j)]++
			}
		}
		if i == 0 {
			first = degrees
		}
		if degrees != first {
			return false
		}
	}
	return true
}

func TestL03IsBalanced(t *testing.T) {
	check := func(x impl.Colouring) {
		is, code := impl.IsBalanced(x)
		wantBool(t, "IsBalanced", is, code, isBalancedByDefinition(x), impl.ErrNone)
	}
	everyShape(check)
	for n := int64(1); n <= impl.MaxPoints; n++ {
		x := oneColour(n, 4, 2)
		check(x)
		for e := range n * (n - 1) / 2 {
			changed := x
			changed.Edges[e] = 3
			check(changed)
		}
	}
	everyCircular(func(x impl.Colouring, _ []int64) {
		is, code := impl.IsBalanced(x)
		wantBool(t, "IsBalanced of a circular colouring", is, code, true, impl.ErrNone)
	})
	everyDigital(func(x impl.Colouring, _ int64, _ []int64) {
		is, code := impl.IsBalanced(x)
		wantBool(t, "IsBalanced of a digital colouring", is, code, true, impl.ErrNone)
	})
	// Each point has one edge of the colour 0, but not all have as many of 1 and of 2.
	is, code := impl.IsBalanced(parsed(t, "4,3:0,11,120"))
	wantBool(t, "IsBalanced in the colour 0 alone", is, code, false, impl.ErrNone)
	is, code = impl.IsBalanced(parsed(t, "4,3:0,11,110"))
	wantBool(t, "IsBalanced with a colour not used", is, code, true, impl.ErrNone)
	is, code = impl.IsBalanced(parsed(t, "3,2:0,01"))
	wantBool(t, "IsBalanced of a path", is, code, false, impl.ErrNone)
	// Balanced, but neither circular nor digital: two triangles and the edges between them.
	prism := parsed(t, "6,2:0,00,011,1010,11000")
	is, code = impl.IsBalanced(prism)
	wantBool(t, "IsBalanced of a prism", is, code, true, impl.ErrNone)
	list, code := impl.ListOfCircular(prism)
	wantList(t, "ListOfCircular of a prism", list, code, nil, impl.ErrState)
}

// With no colouring, ErrInvalid comes whatever the other arguments are.
func TestL03NoColouring(t *testing.T) {
	for what, x := range wrongColourings() {
		list, code := impl.ListOfCircular(x)
		wantList(t, "ListOfCircular: "+what, list, code, nil, impl.ErrInvalid)
		list, code = impl.ListOfDigital(x)
		wantList(t, "ListOfDigital: "+what, list, code, nil, impl.ErrInvalid)
		list, code = impl.MultipliersOf(x)
		wantList(t, "MultipliersOf: "+what, list, code, nil, impl.ErrInvalid)
		is, code := impl.IsBalanced(x)
		wantBool(t, "IsBalanced: "+what, is, code, false, impl.ErrInvalid)
		for _, m := range []int64{1, 0, -1, 2, 99, math.MaxInt64, math.MinInt64} {
			y, code := impl.TurnColouring(x, m)
			wantSame(t, "TurnColouring: "+what, y, code, impl.Colouring{}, impl.ErrInvalid)
		}
	}
}

func TestL03ListsStayAsTheyAre(t *testing.T) {
	for _, list := range [][]int64{{0, 1}, {3, 3}, {3, 4}, {2, 2}, {0, 1, 1}, {1, 0, 1, 1, 1, 0, 0}, {7, 7}, {0}, {}} {
		given := withSpare(list...)
		for n := int64(1); n <= impl.MaxPoints; n++ {
			impl.CircularOf(n, 4, given)
			impl.DigitalOf(n, 4, given)
			impl.CountCircular(n, given)
			impl.FirstCircular(n, given)
		}
		impl.GreatestCircular(given)
		if !slices.Equal(given[:len(list)+3], append(slices.Clone(list), 77, 77, 77)) {
			t.Errorf("a list %v is changed to %v", list, given[:len(list)+3])
		}
	}
}

// Writing to a result, or behind it, must not show in another one.
func TestL03ResultsAreNew(t *testing.T) {
	x, sixteen := named(t, "thirteen"), named(t, "sixteen")
	for _, get := range []func() []int64{
		func() []int64 { list, _ := impl.ListOfCircular(x); return list },
		func() []int64 { list, _ := impl.ListOfDigital(sixteen); return list },
		func() []int64 { list, _ := impl.MultipliersOf(x); return list },
	} {
		first := get()
		kept := slices.Clone(first)
		for i := range first {
			first[i] = -1
		}
		if second := get(); !slices.Equal(second, kept) {
			t.Errorf("a result is changed: %v and %v", second, kept)
		}
	}
}

// Whatever a search starts has ended when it returns, or ends at once.
func TestL03SearchesLeaveNothingRunning(t *testing.T) {
	before := runtime.NumGoroutine()
	for range 300 {
		impl.CountCircular(9, []int64{3, 5})
		impl.FirstCircular(9, []int64{3, 5})
		impl.GreatestCircular([]int64{3, 5})
	}
	for range 100000 {
		if runtime.NumGoroutine() <= before {
			return
		}
		runtime.Gosched()
	}
	t.Errorf("%d goroutines before, %d after", before, runtime.NumGoroutine())
}

// Searches give the same results whether others go on beside them or not.
func TestL03SearchesBesideEachOther(t *testing.T) {
	want, _ := impl.FirstCircular(13, []int64{4, 5})
	results := make(chan impl.Colouring)
	for range 8 {
		go func() {
			x, _ := impl.FirstCircular(13, []int64{4, 5})
			results <- x
		}()
	}
	for range 8 {
		if x := <-results; x != want {
			t.Errorf("FirstCircular(13, 4 5) = %v and %v", x, want)
		}
	}
}
