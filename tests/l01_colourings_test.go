package tests

import (
	"math"
	"slices"
	"strings"
	"testing"

	"loop.example/g01362/impl"
)

// wantColouring checks a colouring by its text; the text is empty if the zero value is wanted.
func wantColouring(t *testing.T, what string, x impl.Colouring, code int64, text string, wantCode int64) {
	t.Helper()
	if code != wantCode {
		t.Errorf("%s returns the code %d, not %d", what, code, wantCode)
	}
	if text == "" {
		if x != (impl.Colouring{}) {
			t.Errorf("%s returns %v, not the zero value", what, x)
		}
		return
	}
	if got, _ := impl.ColouringText(x); got != text {
		t.Errorf("%s returns %q, not %q", what, got, text)
	}
}

// wantList checks a list of numbers.
func wantList(t *testing.T, what string, list []int64, code int64, want []int64, wantCode int64) {
	t.Helper()
	if code != wantCode || !slices.Equal(list, want) {
		t.Errorf("%s returns %v and %d, not %v and %d", what, list, code, want, wantCode)
	}
}

func TestL01Constants(t *testing.T) {
	codes := []int64{impl.ErrNone, impl.ErrInvalid, impl.ErrRange, impl.ErrLimit, impl.ErrNotFound, impl.ErrState, impl.ErrSyntax}
	if !slices.Equal(codes, upTo(7)) {
		t.Errorf("the codes are %v", codes)
	}
	if impl.MaxPoints != 17 || impl.MaxColours != 4 {
		t.Errorf("MaxPoints is %d, MaxColours %d", impl.MaxPoints, impl.MaxColours)
	}
}

func TestL01IsColouring(t *testing.T) {
	everyShape(func(x impl.Colouring) {
		if !impl.IsColouring(x) {
			t.Errorf("IsColouring(%v) is false", x)
		}
	})
	for what, x := range wrongColourings() {
		if impl.IsColouring(x) {
			t.Errorf("IsColouring is true: %s", what)
		}
	}
}

// Each place of Edges counts: as the colour of an edge, or as one that must be 0.
func TestL01IsColouringAtEachPlace(t *testing.T) {
	for n := int64(1); n <= impl.MaxPoints; n++ {
		used := n * (n - 1) / 2
		for place := range int64(136) {
			x := impl.Colouring{Points: n, Colours: 3}
			x.Edges[place] = 2
			if impl.IsColouring(x) != (place < used) {
				t.Errorf("%d points, colour 2 at %d: IsColouring is %v", n, place, place >= used)
			}
			x.Edges[place] = 3
			if impl.IsColouring(x) {
				t.Errorf("%d points, colour 3 of 3 at %d: IsColouring is true", n, place)
			}
		}
	}
}

func TestL01ColouringOf(t *testing.T) {
	everyShape(func(x impl.Colouring) {
		var colours []int64
		for e := range x.Points * (x.Points - 1) / 2 {
			colours = append(colours, int64(x.Edges[e]))
		}
		y, code := impl.ColouringOf(x.Points, x.Colours, colours)
		if y != x || code != impl.ErrNone {
			t.Errorf("ColouringOf(%d, %d, %v) = %v, %d", x.Points, x.Colours, colours, y, code)
		}
	})
	x, code := impl.ColouringOf(1, 1, nil)
	wantColouring(t, "ColouringOf 1, 1", x, code, "1,1:", impl.ErrNone)
}

func TestL01ColouringOfErrors(t *testing.T) {
	cases := []struct {
		n, k    int64
		colours []int64
	}{
		{0, 2, nil}, {-1, 2, []int64{0}}, {18, 2, make([]int64, 153)}, {math.MinInt64, 2, nil}, {math.MaxInt64, 2, nil},
		{1 << 32, 2, nil}, {3, 0, make([]int64, 3)}, {3, -1, make([]int64, 3)}, {3, 5, make([]int64, 3)}, {1, 0, nil}, {1, 5, nil},
		{3, 2, []int64{0, 0}}, {3, 2, []int64{0, 0, 0, 0}}, {3, 2, nil}, {1, 2, []int64{0}},
		{3, 2, []int64{0, 0, 2}}, {3, 2, []int64{-1, 0, 0}}, {3, 2, []int64{0, 256, 0}}, {3, 4, []int64{0, 4, 0}}, {2, 1, []int64{1}},
		{17, 4, append(make([]int64, 135), 4)},
	}
	for _, c := range cases {
		x, code := impl.ColouringOf(c.n, c.k, c.colours)
		if x != (impl.Colouring{}) || code != impl.ErrRange {
			t.Errorf("ColouringOf(%d, %d, %v) = %v, %d", c.n, c.k, c.colours, x, code)
		}
	}
}

func TestL01ColourOf(t *testing.T) {
	everyShape(func(x impl.Colouring) {
		for i := range x.Points {
			for j := range x.Points {
				c, code := impl.ColourOf(x, i, j)
				if i == j {
					if c != 0 || code != impl.ErrRange {
						t.Errorf("ColourOf(%v, %d, %d) = %d, %d", x, i, j, c, code)
					}
				} else if c != colourIn(x, i, j) || code != impl.ErrNone {
					t.Errorf("ColourOf(%v, %d, %d) = %d, %d", x, i, j, c, code)
				}
			}
		}
	})
	x := parsed(t, "3,3:2,22")
	for _, p := range [][2]int64{{0, 3}, {3, 0}, {-1, 0}, {0, -1}, {math.MaxInt64, 1}, {1, math.MinInt64}, {4, 4}} {
		if c, code := impl.ColourOf(x, p[0], p[1]); c != 0 || code != impl.ErrRange {
			t.Errorf("ColourOf(x, %d, %d) = %d, %d", p[0], p[1], c, code)
		}
	}
	if c, code := impl.ColourOf(impl.Colouring{Points: 1, Colours: 1}, 0, 0); c != 0 || code != impl.ErrRange {
		t.Errorf("ColourOf of one point = %d, %d", c, code)
	}
}

func TestL01ChangeEdge(t *testing.T) {
	everyShape(func(x impl.Colouring) {
		for i := range x.Points {
			for j := range i {
				for c := range x.Colours {
					want := x
					want.Edges[i*(i-1)/2+j] = byte(c)
					one, code1 := impl.ChangeEdge(x, i, j, c)
					two, code2 := impl.ChangeEdge(x, j, i, c)
					if one != want || two != want || code1 != impl.ErrNone || code2 != impl.ErrNone {
						t.Fatalf("ChangeEdge(%v, %d, %d, %d) = %v, %d and %v, %d", x, i, j, c, one, code1, two, code2)
					}
				}
			}
		}
	})
	x := parsed(t, "3,3:2,22")
	for _, a := range [][3]int64{{0, 3, 0}, {3, 0, 0}, {-1, 0, 0}, {0, -1, 0}, {1, 1, 0}, {0, 1, 3}, {0, 1, -1}, {0, 1, 256}, {0, 1, math.MinInt64}} {
		y, code := impl.ChangeEdge(x, a[0], a[1], a[2])
		if y != (impl.Colouring{}) || code != impl.ErrRange {
			t.Errorf("ChangeEdge(x, %v) = %v, %d", a, y, code)
		}
	}
}

func TestL01NeighboursOf(t *testing.T) {
	everyShape(func(x impl.Colouring) {
		for i := range x.Points {
			for c := range x.Colours {
				var want []int64
				for j := range x.Points {
					if j != i && colourIn(x, i, j) == c {
						want = append(want, j)
					}
				}
				list, code := impl.NeighboursOf(x, i, c)
				wantList(t, "NeighboursOf", list, code, want, impl.ErrNone)
			}
		}
	})
	x := parsed(t, "4,3:0,12,210")
	list, code := impl.NeighboursOf(x, 2, 1)
	wantList(t, "NeighboursOf 2, 1", list, code, []int64{0}, impl.ErrNone)
	list, code = impl.NeighboursOf(parsed(t, "4,2:0,00,000"), 3, 0)
	wantList(t, "NeighboursOf 3, 0", list, code, []int64{0, 1, 2}, impl.ErrNone)
	for _, a := range [][2]int64{{4, 0}, {-1, 0}, {0, 3}, {0, -1}, {math.MaxInt64, 0}, {0, math.MinInt64}} {
		list, code := impl.NeighboursOf(x, a[0], a[1])
		wantList(t, "NeighboursOf out of range", list, code, nil, impl.ErrRange)
	}
}

// Promise 1: the degrees of a colour add up to twice its edges.
func TestL01DegreesAddUpToTwiceTheEdges(t *testing.T) {
	everyShape(func(x impl.Colouring) {
		counts, code := impl.CountEdges(x)
		if code != impl.ErrNone || int64(len(counts)) != x.Colours {
			t.Fatalf("CountEdges(%v) = %v, %d", x, counts, code)
		}
		all := int64(0)
		for c := range x.Colours {
			degrees, code := impl.DegreesOf(x, c)
			if code != impl.ErrNone || int64(len(degrees)) != x.Points {
				t.Fatalf("DegreesOf(%v, %d) = %v, %d", x, c, degrees, code)
			}
			sum := int64(0)
			for i, degree := range degrees {
				sum += degree
				neighbours, _ := impl.NeighboursOf(x, int64(i), c)
				if int64(len(neighbours)) != degree {
					t.Errorf("the point %d of %v has the degree %d in %d and the neighbours %v", i, x, degree, c, neighbours)
				}
			}
			if sum != 2*counts[c] {
				t.Errorf("the degrees %v in %d of %v add up to %d, with %d edges", degrees, c, x, sum, counts[c])
			}
			all += counts[c]
		}
		if all != x.Points*(x.Points-1)/2 {
			t.Errorf("CountEdges(%v) = %v", x, counts)
		}
	})
}

func TestL01DegreesAndEdges(t *testing.T) {
	x := parsed(t, "4,3:0,02,020")
	for c, want := range [][]int64{{3, 1, 2, 2}, {0, 0, 0, 0}, {0, 2, 1, 1}} {
		degrees, code := impl.DegreesOf(x, int64(c))
		wantList(t, "DegreesOf", degrees, code, want, impl.ErrNone)
	}
	counts, code := impl.CountEdges(x)
	wantList(t, "CountEdges", counts, code, []int64{4, 0, 2}, impl.ErrNone)
	counts, code = impl.CountEdges(parsed(t, "1,4:"))
	wantList(t, "CountEdges of one point", counts, code, []int64{0, 0, 0, 0}, impl.ErrNone)
	degrees, code := impl.DegreesOf(parsed(t, "1,1:"), 0)
	wantList(t, "DegreesOf one point", degrees, code, []int64{0}, impl.ErrNone)
	whole := impl.Colouring{Points: 17, Colours: 1}
	degrees, code = impl.DegreesOf(whole, 0)
	wantList(t, "DegreesOf one colour", degrees, code, sameNumber(17, 16), impl.ErrNone)
	counts, code = impl.CountEdges(whole)
	wantList(t, "CountEdges of one colour", counts, code, []int64{136}, impl.ErrNone)
	for _, c := range []int64{3, -1, math.MaxInt64, math.MinInt64} {
		degrees, code := impl.DegreesOf(x, c)
		wantList(t, "DegreesOf out of range", degrees, code, nil, impl.ErrRange)
	}
}

func TestL01PartOn(t *testing.T) {
	x := parsed(t, "5,4:0,12,321,0123")
	cases := []struct {
		points []int64
		text   string
	}{
		{[]int64{0}, "1,4:"}, {[]int64{4}, "1,4:"}, {[]int64{1, 3}, "2,4:2"}, {[]int64{0, 2, 4}, "3,4:1,02"},
		{[]int64{1, 2, 3, 4}, "4,4:2,21,123"}, {[]int64{0, 1, 2, 3, 4}, "5,4:0,12,321,0123"},
	}
	for _, c := range cases {
		y, code := impl.PartOn(x, c.points)
		wantColouring(t, "PartOn", y, code, c.text, impl.ErrNone)
	}
	for _, points := range [][]int64{nil, {}, {5}, {-1}, {0, 5}, {-1, 0}, {1, 1}, {2, 1}, {0, 1, 2, 3, 4, 5}, {0, 1, 1, 2}, {0, 3, 2}, {math.MinInt64, 0}, {0, math.MaxInt64}} {
		y, code := impl.PartOn(x, points)
		wantColouring(t, "PartOn out of range", y, code, "", impl.ErrRange)
	}
	everyShape(func(x impl.Colouring) {
		if y, code := impl.PartOn(x, upTo(x.Points)); y != x || code != impl.ErrNone {
			t.Errorf("PartOn(%v) on all points = %v, %d", x, y, code)
		}
	})
}

func TestL01PutAndTake(t *testing.T) {
	everyShape(func(x impl.Colouring) {
		colours := make([]int64, x.Points)
		for i := range colours {
			colours[i] = int64(i*i+1) % x.Colours
		}
		y, code := impl.PutPoint(x, colours)
		if x.Points == impl.MaxPoints {
			wantColouring(t, "PutPoint to MaxPoints points", y, code, "", impl.ErrLimit)
			return
		}
		if code != impl.ErrNone || y.Points != x.Points+1 || y.Colours != x.Colours || !impl.IsColouring(y) {
			t.Fatalf("PutPoint(%v, %v) = %v, %d", x, colours, y, code)
		}
		for i, c := range colours {
			if colourIn(y, int64(i), x.Points) != c {
				t.Errorf("PutPoint(%v, %v) = %v", x, colours, y)
			}
		}
		if back, code := impl.TakePoint(y, x.Points); back != x || code != impl.ErrNone {
			t.Errorf("TakePoint(%v, %d) = %v, %d, not %v", y, x.Points, back, code, x)
		}
	})
	x, code := impl.PutPoint(parsed(t, "4,3:0,12,210"), []int64{1, 1, 0, 2})
	wantColouring(t, "PutPoint", x, code, "5,3:0,12,210,1102", impl.ErrNone)
	x, code = impl.PutPoint(parsed(t, "1,4:"), []int64{3})
	wantColouring(t, "PutPoint to one point", x, code, "2,4:3", impl.ErrNone)
}

func TestL01PutPointErrors(t *testing.T) {
	x := parsed(t, "3,2:0,01")
	for _, colours := range [][]int64{nil, {0, 0}, {0, 0, 0, 0}, {0, 0, 2}, {-1, 0, 0}, {0, 256, 0}, {0, math.MinInt64, 0}} {
		y, code := impl.PutPoint(x, colours)
		wantColouring(t, "PutPoint out of range", y, code, "", impl.ErrRange)
	}
	full := named(t, "seventeen")
	for _, colours := range [][]int64{nil, sameNumber(16, 0), sameNumber(18, 0), sameNumber(17, 2), sameNumber(17, -1)} {
		y, code := impl.PutPoint(full, colours)
		wantColouring(t, "PutPoint with two errors", y, code, "", impl.ErrRange)
	}
	y, code := impl.PutPoint(full, sameNumber(17, 1))
	wantColouring(t, "PutPoint to seventeen", y, code, "", impl.ErrLimit)
	y, code = impl.PutPoint(named(t, "sixteen"), sameNumber(16, 2))
	if code != impl.ErrNone || y.Points != 17 || y.Edges[135] != 2 {
		t.Errorf("PutPoint to sixteen = %v, %d", y, code)
	}
}

func TestL01TakePoint(t *testing.T) {
	x := parsed(t, "4,3:0,12,210")
	for p, text := range []string{"3,3:2,10", "3,3:1,20", "3,3:0,21", "3,3:0,12"} {
		y, code := impl.TakePoint(x, int64(p))
		wantColouring(t, "TakePoint", y, code, text, impl.ErrNone)
	}
	y, code := impl.TakePoint(parsed(t, "2,2:1"), 0)
	wantColouring(t, "TakePoint of two", y, code, "1,2:", impl.ErrNone)
	for _, p := range []int64{4, -1, math.MaxInt64, math.MinInt64} {
		y, code := impl.TakePoint(x, p)
		wantColouring(t, "TakePoint out of range", y, code, "", impl.ErrRange)
	}
	y, code = impl.TakePoint(parsed(t, "1,2:"), 0)
	wantColouring(t, "TakePoint of one", y, code, "", impl.ErrState)
	y, code = impl.TakePoint(parsed(t, "1,2:"), 1)
	wantColouring(t, "TakePoint of one, out of range", y, code, "", impl.ErrRange)
}

// Promise 1: renumbered points go back.
func TestL01RenumberedPointsGoBack(t *testing.T) {
	everyShape(func(x impl.Colouring) {
		for seed := range uint64(3) {
			p := mixedList(x.Points, seed)
			y, code := impl.RenumberPoints(x, p)
			if code != impl.ErrNone || !impl.IsColouring(y) || y.Points != x.Points || y.Colours != x.Colours {
				t.Fatalf("RenumberPoints(%v, %v) = %v, %d", x, p, y, code)
			}
			back := make([]int64, len(p))
			for i, image := range p {
				back[image] = int64(i)
				for j := range i {
					if colourIn(y, p[i], p[j]) != colourIn(x, int64(i), int64(j)) {
						t.Fatalf("RenumberPoints(%v, %v) = %v", x, p, y)
					}
				}
			}
			if z, code := impl.RenumberPoints(y, back); z != x || code != impl.ErrNone {
				t.Errorf("RenumberPoints(%v, %v) = %v, %d, not %v", y, back, z, code, x)
			}
		}
	})
}

func TestL01RenumberPoints(t *testing.T) {
	x := parsed(t, "3,3:0,12")
	for text, p := range map[string][]int64{"3,3:0,12": {0, 1, 2}, "3,3:2,01": {2, 0, 1}, "3,3:1,20": {1, 2, 0}, "3,3:0,21": {1, 0, 2}} {
		y, code := impl.RenumberPoints(x, p)
		wantColouring(t, "RenumberPoints", y, code, text, impl.ErrNone)
	}
	for _, p := range [][]int64{nil, {0, 1}, {0, 1, 2, 3}, {0, 1, 1}, {0, 0, 2}, {1, 2, 3}, {-1, 0, 1}, {0, 1, math.MaxInt64}, {2, 2, 2}} {
		y, code := impl.RenumberPoints(x, p)
		wantColouring(t, "RenumberPoints out of range", y, code, "", impl.ErrRange)
	}
	y, code := impl.RenumberPoints(parsed(t, "1,3:"), []int64{0})
	wantColouring(t, "RenumberPoints of one", y, code, "1,3:", impl.ErrNone)
}

// Promise 1: exchanged colours go back.
func TestL01ExchangedColoursGoBack(t *testing.T) {
	everyShape(func(x impl.Colouring) {
		for seed := range uint64(4) {
			q := mixedList(x.Colours, seed)
			y, code := impl.ExchangeColours(x, q)
			if code != impl.ErrNone || !impl.IsColouring(y) || y.Points != x.Points || y.Colours != x.Colours {
				t.Fatalf("ExchangeColours(%v, %v) = %v, %d", x, q, y, code)
			}
			for e := range x.Points * (x.Points - 1) / 2 {
				if int64(y.Edges[e]) != q[x.Edges[e]] {
					t.Fatalf("ExchangeColours(%v, %v) = %v", x, q, y)
				}
			}
			back := make([]int64, len(q))
			for c, image := range q {
				back[image] = int64(c)
			}
			if z, code := impl.ExchangeColours(y, back); z != x || code != impl.ErrNone {
				t.Errorf("ExchangeColours(%v, %v) = %v, %d, not %v", y, back, z, code, x)
			}
		}
	})
}

func TestL01ExchangeColours(t *testing.T) {
	x := parsed(t, "4,3:0,12,210")
	for text, q := range map[string][]int64{"4,3:0,12,210": {0, 1, 2}, "4,3:1,20,021": {1, 2, 0}, "4,3:2,01,102": {2, 0, 1}} {
		y, code := impl.ExchangeColours(x, q)
		wantColouring(t, "ExchangeColours", y, code, text, impl.ErrNone)
	}
	for _, q := range [][]int64{nil, {0, 1}, {0, 1, 2, 3}, {0, 1, 1}, {1, 2, 3}, {-1, 0, 1}, {0, 2, 256}, {0, 0, 0}} {
		y, code := impl.ExchangeColours(x, q)
		wantColouring(t, "ExchangeColours out of range", y, code, "", impl.ErrRange)
	}
	y, code := impl.ExchangeColours(parsed(t, "3,1:0,00"), []int64{0})
	wantColouring(t, "ExchangeColours of one", y, code, "3,1:0,00", impl.ErrNone)
	y, code = impl.ExchangeColours(parsed(t, "1,4:"), []int64{3, 2, 1, 0})
	wantColouring(t, "ExchangeColours of one point", y, code, "1,4:", impl.ErrNone)
}

func TestL01JoinColours(t *testing.T) {
	x := parsed(t, "4,4:0,12,321")
	cases := []struct {
		c, d int64
		text string
	}{
		{0, 1, "4,3:0,01,210"}, {0, 2, "4,3:0,10,201"}, {0, 3, "4,3:0,12,021"},
		{1, 2, "4,3:0,11,211"}, {1, 3, "4,3:0,12,121"}, {2, 3, "4,3:0,12,221"},
	}
	for _, c := range cases {
		y, code := impl.JoinColours(x, c.c, c.d)
		wantColouring(t, "JoinColours", y, code, c.text, impl.ErrNone)
	}
	for _, a := range [][2]int64{{0, 0}, {1, 0}, {3, 2}, {0, 4}, {3, 4}, {-1, 0}, {-2, -1}, {0, math.MaxInt64}, {math.MinInt64, 0}} {
		y, code := impl.JoinColours(x, a[0], a[1])
		wantColouring(t, "JoinColours out of range", y, code, "", impl.ErrRange)
	}
	y, code := impl.JoinColours(parsed(t, "3,2:0,10"), 0, 1)
	wantColouring(t, "JoinColours of two", y, code, "3,1:0,00", impl.ErrNone)
	y, code = impl.JoinColours(parsed(t, "3,1:0,00"), 0, 1)
	wantColouring(t, "JoinColours of one colour", y, code, "", impl.ErrRange)
	y, code = impl.JoinColours(parsed(t, "1,4:"), 1, 3)
	wantColouring(t, "JoinColours of one point", y, code, "1,3:", impl.ErrNone)
}

func TestL01CommonNeighbours(t *testing.T) {
	everyShape(func(x impl.Colouring) {
		for i := range x.Points {
			for j := range x.Points {
				for c := range x.Colours {
					var want []int64
					for p := range x.Points {
						if p != i && p != j && colourIn(x, p, i) == c && colourIn(x, p, j) == c {
							want = append(want, p)
						}
					}
					list, code := impl.CommonNeighbours(x, i, j, c)
					if i == j {
						wantList(t, "CommonNeighbours of one point", list, code, nil, impl.ErrRange)
					} else {
						wantList(t, "CommonNeighbours", list, code, want, impl.ErrNone)
					}
				}
			}
		}
	})
	pentagon := named(t, "pentagon")
	list, code := impl.CommonNeighbours(pentagon, 2, 0, 0)
	wantList(t, "CommonNeighbours 2, 0, 0", list, code, []int64{1}, impl.ErrNone)
	list, code = impl.CommonNeighbours(pentagon, 0, 1, 0)
	wantList(t, "CommonNeighbours 0, 1, 0", list, code, nil, impl.ErrNone)
	for _, a := range [][3]int64{{0, 5, 0}, {5, 0, 0}, {-1, 0, 0}, {0, -1, 0}, {0, 1, 2}, {0, 1, -1}, {0, 1, math.MaxInt64}} {
		list, code := impl.CommonNeighbours(pentagon, a[0], a[1], a[2])
		wantList(t, "CommonNeighbours out of range", list, code, nil, impl.ErrRange)
	}
}

// byCircle returns the rule with the colour 0 where the difference modulo n is one of a list.
func byCircle(n int64, rests ...int64) func(i int64, j int64) int64 {
	return func(i int64, j int64) int64 {
		if slices.Contains(rests, (j-i+n)%n) {
			return 0
		}
		return 1
	}
}

// bySquares returns the colour 0 where the difference has the rest of a square modulo 17.
func bySquares(i int64, j int64) int64 {
	for root := range int64(17) {
		if (root*root-(j-i))%17 == 0 {
			return 0
		}
	}
	return 1
}

// byDigits returns the colour of sixteen, from a table of the differences digit by digit.
func byDigits(i int64, j int64) int64 {
	return int64(".011222102010120"[i^j] - '0')
}

func TestL01NamedColouring(t *testing.T) {
	cases := []struct {
		name    string
		points  int64
		colours int64
		rule    func(i int64, j int64) int64
	}{
		{"pentagon", 5, 2, byCircle(5, 1, 4)},
		{"eight", 8, 2, byCircle(8, 1, 4, 7)},
		{"thirteen", 13, 2, byCircle(13, 1, 5, 8, 12)},
		{"seventeen", 17, 2, bySquares},
		{"sixteen", 16, 3, byDigits},
	}
	for _, c := range cases {
		x, code := impl.NamedColouring(c.name)
		if code != impl.ErrNone || x.Points != c.points || x.Colours != c.colours || !impl.IsColouring(x) {
			t.Fatalf("NamedColouring(%q) = %v, %d", c.name, x, code)
		}
		for j := range c.points {
			for i := range j {
				if colourIn(x, i, j) != c.rule(i, j) {
					t.Errorf("NamedColouring(%q): the edge of %d and %d has the colour %d", c.name, i, j, colourIn(x, i, j))
				}
			}
		}
	}
}

func TestL01NamedColouringErrors(t *testing.T) {
	for _, name := range []string{"", " ", "Pentagon", "pentagon ", " pentagon", "pentago", "pentagons", "PENTAGON", "nine", "five", "5", "eighteen", "pentagon\n", "pentagon\x00", "5,2:0,10,110,0110"} {
		x, code := impl.NamedColouring(name)
		if x != (impl.Colouring{}) || code != impl.ErrNotFound {
			t.Errorf("NamedColouring(%q) = %v, %d", name, x, code)
		}
	}
}

func TestL01ColouringText(t *testing.T) {
	cases := map[string]impl.Colouring{
		"5,2:0,10,110,0110": named(t, "pentagon"),
		"1,1:":              {Points: 1, Colours: 1},
		"1,4:":              {Points: 1, Colours: 4},
		"2,1:0":             {Points: 2, Colours: 1},
		"2,4:3":             {Points: 2, Colours: 4, Edges: [136]byte{3}},
		"4,3:0,12,210":      {Points: 4, Colours: 3, Edges: [136]byte{0, 1, 2, 2, 1, 0}},
	}
	for text, x := range cases {
		got, code := impl.ColouringText(x)
		if got != text || code != impl.ErrNone {
			t.Errorf("ColouringText(%v) = %q, %d, not %q", x, got, code, text)
		}
		if y, code := impl.ParseColouring(text); y != x || code != impl.ErrNone {
			t.Errorf("ParseColouring(%q) = %v, %d, not %v", text, y, code, x)
		}
	}
	rows := []string{}
	for j := 1; j < 17; j++ {
		rows = append(rows, strings.Repeat("0", j))
	}
	text, code := impl.ColouringText(impl.Colouring{Points: 17, Colours: 1})
	if want := "17,1:" + strings.Join(rows, ","); text != want || code != impl.ErrNone {
		t.Errorf("ColouringText of 17 points = %q, %d, not %q", text, code, want)
	}
}

// Promise 1: colourings come back from their texts, and no two have the same text.
func TestL01ColouringsComeBackFromTheirTexts(t *testing.T) {
	seen := map[string]impl.Colouring{}
	everyShape(func(x impl.Colouring) {
		text, code := impl.ColouringText(x)
		if code != impl.ErrNone {
			t.Fatalf("ColouringText(%v) returns the code %d", x, code)
		}
		if y, code := impl.ParseColouring(text); y != x || code != impl.ErrNone {
			t.Errorf("ParseColouring(%q) = %v, %d, not %v", text, y, code, x)
		}
		if y, ok := seen[text]; ok && y != x {
			t.Errorf("%v and %v have the text %q", x, y, text)
		}
		seen[text] = x
	})
	for _, name := range []string{"pentagon", "eight", "thirteen", "seventeen", "sixteen"} {
		x := named(t, name)
		text, _ := impl.ColouringText(x)
		if y, code := impl.ParseColouring(text); y != x || code != impl.ErrNone {
			t.Errorf("ParseColouring(%q) = %v, %d, not %s", text, y, code, name)
		}
	}
}

func TestL01ParseColouringErrors(t *testing.T) {
	whole, _ := impl.ColouringText(named(t, "seventeen"))
	texts := []string{
		"", ",", ":", ",:", "0,0:", "1", "1,", "1,1", "1:", "1:1", ",1:", "1,:", "1,1,:", "1,1,1:", "1,1::", "1;1:", "1.1:",
		"0,1:", "0,2:", "1,0:", "1,5:", "18,2:", "3,0:0,00", "3,5:0,00", "-1,2:", "1,-1:", "+1,1:", "1,+1:", "01,1:", "1,01:", "1,1_0:", "1_,1:",
		"03,2:0,00", "3,02:0,00", "3, 2:0,00", " 3,2:0,00", "3,2:0,00 ", "3,2: 0,00", "3,2 :0,00", "3,2:0,00\n", "3,2:0,00\x00", "3,2:0, 00", "3,2:0,0 ",
		"3,2:", "3,2:0", "3,2:0,", "3,2:0,0", "3,2:0,000", "3,2:000", "3,2:00,0", "3,2:,000", "3,2:0,0,0", "3,2:0,,00", "3,2:,0,00", "3,2:0,00,", "3,2:0,00,000", "3,2:00,00", "3,2:0,00:",
		"3,2:0;00", "3,2;0,00", "3:2:0,00", "3,2,0,00", "3,2:0,02", "3,2:2,00", "3,4:0,40", "3,2:0,0a", "3,2:0,0/", "3,2:-,00", "3,2:0,0-1", "3,1:0,01", "3,4:0,0:", "3,4:0,0\xff",
		"2,2:", "2,2:00", "2,2:,0", "2,2:0,", "1,2:0", "1,2:,", "a,2:0", "2,b:0", "0x2,2:0", "2e0,2:0", "\u0662,2:0", "\uff12,2:0", "2,2:\uff10",
		"18446744073709551617,1:", "99999999999999999999,1:", "1,18446744073709551617:", "4294967297,1:", "9223372036854775807,1:",
		"pentagon", whole + "0", whole[:len(whole)-1], whole + ",", "18" + whole[2:], "16" + whole[2:], strings.Repeat("1", 5000), "2,2:" + strings.Repeat("0", 5000), "2,2:0" + strings.Repeat(",", 5000),
	}
	for _, text := range texts {
		x, code := impl.ParseColouring(text)
		if x != (impl.Colouring{}) || code != impl.ErrSyntax {
			t.Errorf("ParseColouring(%q) = %v, %d", text, x, code)
		}
	}
}

// A text with one byte changed, left out or put in is that of another colouring, or of none.
func TestL01ParseColouringOfChangedTexts(t *testing.T) {
	check := func(text string) {
		x, code := impl.ParseColouring(text)
		if code == impl.ErrNone {
			if back, _ := impl.ColouringText(x); back != text {
				t.Errorf("ParseColouring(%q) returns the colouring with the text %q", text, back)
			}
		} else if code != impl.ErrSyntax || x != (impl.Colouring{}) {
			t.Errorf("ParseColouring(%q) = %v, %d", text, x, code)
		}
	}
	for _, text := range []string{"5,2:0,10,110,0110", "1,1:", "2,4:3", "10,1:0,00,000,0000,00000,000000,0000000,00000000,000000000"} {
		for place := range len(text) + 1 {
			for b := range 256 {
				put := string([]byte{byte(b)})
				check(text[:place] + put + text[place:])
				if place < len(text) {
					check(text[:place] + put + text[place+1:])
				}
			}
			if place < len(text) {
				check(text[:place] + text[place+1:])
			}
		}
	}
}

// Of something that is no colouring all functions return ErrInvalid, also where a number or a list
// is wrong too, and zero values beside it.
func TestL01NoColouring(t *testing.T) {
	for what, x := range wrongColourings() {
		n := max(0, min(x.Points, 20))
		for _, a := range []int64{0, 1, -1, 99} {
			lists := map[string]func() ([]int64, int64){
				"NeighboursOf":     func() ([]int64, int64) { return impl.NeighboursOf(x, a, a) },
				"DegreesOf":        func() ([]int64, int64) { return impl.DegreesOf(x, a) },
				"CountEdges":       func() ([]int64, int64) { return impl.CountEdges(x) },
				"CommonNeighbours": func() ([]int64, int64) { return impl.CommonNeighbours(x, 0, a, a) },
			}
			for name, call := range lists {
				list, code := call()
				wantList(t, name+" of "+what, list, code, nil, impl.ErrInvalid)
			}
			colourings := map[string]func() (impl.Colouring, int64){
				"ChangeEdge":      func() (impl.Colouring, int64) { return impl.ChangeEdge(x, 0, a, a) },
				"PartOn":          func() (impl.Colouring, int64) { return impl.PartOn(x, []int64{a}) },
				"PutPoint":        func() (impl.Colouring, int64) { return impl.PutPoint(x, sameNumber(n, a)) },
				"TakePoint":       func() (impl.Colouring, int64) { return impl.TakePoint(x, a) },
				"RenumberPoints":  func() (impl.Colouring, int64) { return impl.RenumberPoints(x, upTo(n+a/2)) },
				"ExchangeColours": func() (impl.Colouring, int64) { return impl.ExchangeColours(x, upTo(2+a/2)) },
				"JoinColours":     func() (impl.Colouring, int64) { return impl.JoinColours(x, 0, a) },
			}
			for name, call := range colourings {
				y, code := call()
				wantColouring(t, name+" of "+what, y, code, "", impl.ErrInvalid)
			}
			if c, code := impl.ColourOf(x, 0, a); c != 0 || code != impl.ErrInvalid {
				t.Errorf("ColourOf of %s = %d, %d", what, c, code)
			}
		}
		if text, code := impl.ColouringText(x); text != "" || code != impl.ErrInvalid {
			t.Errorf("ColouringText of %s = %q, %d", what, text, code)
		}
	}
}

// withSpare returns a list as a part of a longer one whose rest must stay as it is.
func withSpare(list ...int64) []int64 {
	return append(append([]int64{}, list...), 77, 77, 77)[:len(list)]
}

func TestL01ListsStayAsTheyAre(t *testing.T) {
	x := parsed(t, "4,3:0,12,210")
	calls := map[string]func(list []int64) int64{
		"ColouringOf":     func(list []int64) int64 { _, code := impl.ColouringOf(4, 3, list); return code },
		"PartOn":          func(list []int64) int64 { _, code := impl.PartOn(x, list); return code },
		"PutPoint":        func(list []int64) int64 { _, code := impl.PutPoint(x, list); return code },
		"RenumberPoints":  func(list []int64) int64 { _, code := impl.RenumberPoints(x, list); return code },
		"ExchangeColours": func(list []int64) int64 { _, code := impl.ExchangeColours(x, list); return code },
	}
	right := map[string][]int64{
		"ColouringOf":     {2, 1, 0, 2, 0, 1},
		"PartOn":          {0, 1, 3},
		"PutPoint":        {2, 0, 1, 0},
		"RenumberPoints":  {3, 0, 2, 1},
		"ExchangeColours": {2, 0, 1},
	}
	for name, call := range calls {
		for _, list := range [][]int64{right[name], {3, 1, 2, 9}, nil} {
			given := withSpare(list...)
			call(given)
			if !slices.Equal(given[:len(list)+3], append(slices.Clone(list), 77, 77, 77)) {
				t.Errorf("%s changes %v to %v", name, list, given[:len(list)+3])
			}
		}
		if code := call(withSpare(right[name]...)); code != impl.ErrNone {
			t.Errorf("%s(%v) returns the code %d", name, right[name], code)
		}
	}
}

func TestL01ResultsAreNew(t *testing.T) {
	x := named(t, "pentagon")
	calls := map[string]func() ([]int64, int64){
		"NeighboursOf":     func() ([]int64, int64) { return impl.NeighboursOf(x, 0, 0) },
		"DegreesOf":        func() ([]int64, int64) { return impl.DegreesOf(x, 0) },
		"CountEdges":       func() ([]int64, int64) { return impl.CountEdges(x) },
		"CommonNeighbours": func() ([]int64, int64) { return impl.CommonNeighbours(x, 0, 2, 0) },
	}
	for name, call := range calls {
		first, _ := call()
		want := slices.Clone(first)
		for i := range first {
			first[i] = 99
		}
		second, code := call()
		wantList(t, name+" called again", second, code, want, impl.ErrNone)
	}
}
