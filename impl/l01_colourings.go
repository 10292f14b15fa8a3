package impl

import (
	"iter"
	"slices"
	"strconv"
	"strings"
)

const (
	ErrNone = iota
	ErrInvalid
	ErrRange
	ErrLimit
	ErrNotFound
	ErrState
	ErrSyntax
)
const (
	MaxPoints  = 17
	MaxColours = 4
)

type Colouring struct {
	Points  int64
	Colours int64
	Edges   [136]byte
}

// edge has the two points of an edge, the lesser one as low.
type edge struct {
	low  int64
	high int64
}

// edgesOf gives the edges between n points with their numbers, in the order of these.
func edgesOf(n int64) iter.Seq2[int64, edge] {
	return func(yield func(int64, edge) bool) {
		number := int64(0)
		for high := int64(1); high < n; high++ {
			for low := int64(0); low < high; low++ {
				if !yield(number, edge{low, high}) {
					return
				}
				number++
			}
		}
	}
}

// edgeNumber returns the number of the edge of two different points, in any order.
func edgeNumber(i int64, j int64) int64 {
	low, high := min(i, j), max(i, j)
	return high*(high-1)/2 + low
}

// edgeCount returns the number of edges between n points.
func edgeCount(n int64) int64 { return n * (n - 1) / 2 }

// colourAt returns the colour of the edge of two different points of a colouring.
func colourAt(x Colouring, i int64, j int64) int64 {
	return int64(x.Edges[edgeNumber(i, j)])
}

// paint returns the colouring with n points and k colours in which a rule tells the colour of the
// edge of each two points, the lesser one first.
func paint(n int64, k int64, rule func(low int64, high int64) int64) Colouring {
	x := Colouring{Points: n, Colours: k}
	for number, e := range edgesOf(n) {
		x.Edges[number] = byte(rule(e.low, e.high))
	}
	return x
}

// isWithin reports whether a number is in least..greatest.
func isWithin(number int64, least int64, greatest int64) bool {
	return least <= number && number <= greatest
}

// isShape reports whether a colouring may have n points and k colours.
func isShape(n int64, k int64) bool {
	return isWithin(n, 1, MaxPoints) && isWithin(k, 1, MaxColours)
}

// isBelow reports whether a number is in 0..limit - 1.
func isBelow(number int64, limit int64) bool { return 0 <= number && number < limit }

// areBelow reports whether all numbers of a list are in 0..limit - 1.
func areBelow(list []int64, limit int64) bool {
	for _, number := range list {
		if !isBelow(number, limit) {
			return false
		}
	}
	return true
}

// isSet reports whether a list tells a set of points of n points.
func isSet(points []int64, n int64) bool {
	for place := 1; place < len(points); place++ {
		if points[place-1] >= points[place] {
			return false
		}
	}
	return areBelow(points, n)
}

// isOrder reports whether a list has each of the numbers 0 to n - 1 once.
func isOrder(list []int64, n int64) bool {
	return int64(len(list)) == n && isSet(slices.Sorted(slices.Values(list)), n)
}

// arePointPair reports whether two numbers are different points of n points.
func arePointPair(i int64, j int64, n int64) bool {
	return isBelow(i, n) && isBelow(j, n) && i != j
}

// IsColouring reports whether x is a colouring.
func IsColouring(x Colouring) bool {
	if !isShape(x.Points, x.Colours) {
		return false
	}
	used := edgeCount(x.Points)
	for _, colour := range x.Edges[:used] {
		if int64(colour) >= x.Colours {
			return false
		}
	}
	for _, rest := range x.Edges[used:] {
		if rest != 0 {
			return false
		}
	}
	return true
}

// ColouringOf returns the colouring with n points, in 1..MaxPoints, and k colours, in
// 1..MaxColours, whose edges have n (n - 1) / 2 colours, in the order of their numbers, and
// ErrNone.
func ColouringOf(n int64, k int64, colours []int64) (Colouring, int64) {
	if !isShape(n, k) {
		return Colouring{}, ErrRange
	}
	if int64(len(colours)) != edgeCount(n) || !areBelow(colours, k) {
		return Colouring{}, ErrRange
	}
	return paint(n, k, func(low int64, high int64) int64 {
		return colours[edgeNumber(low, high)]
	}), ErrNone
}

// ColourOf returns the colour of the edge of two different points, and ErrNone.
func ColourOf(x Colouring, i int64, j int64) (int64, int64) {
	if !IsColouring(x) {
		return 0, ErrInvalid
	}
	if !arePointPair(i, j, x.Points) {
		return 0, ErrRange
	}
	return colourAt(x, i, j), ErrNone
}

// ChangeEdge returns x with the colour c for the edge of two different points, and ErrNone.
func ChangeEdge(x Colouring, i int64, j int64, c int64) (Colouring, int64) {
	if !IsColouring(x) {
		return Colouring{}, ErrInvalid
	}
	if !arePointPair(i, j, x.Points) || !isBelow(c, x.Colours) {
		return Colouring{}, ErrRange
	}
	x.Edges[edgeNumber(i, j)] = byte(c)
	return x, ErrNone
}

// neighboursAt returns the neighbours of a point in a colour, ascending.
func neighboursAt(x Colouring, i int64, c int64) []int64 {
	var found []int64
	for j := range x.Points {
		if j != i && colourAt(x, i, j) == c {
			found = append(found, j)
		}
	}
	return found
}

// NeighboursOf returns the neighbours of a point in a colour, ascending, and ErrNone.
func NeighboursOf(x Colouring, i int64, c int64) ([]int64, int64) {
	if !IsColouring(x) {
		return nil, ErrInvalid
	}
	if !isBelow(i, x.Points) || !isBelow(c, x.Colours) {
		return nil, ErrRange
	}
	return neighboursAt(x, i, c), ErrNone
}

// DegreesOf returns the degrees of all points in a colour, and ErrNone.
func DegreesOf(x Colouring, c int64) ([]int64, int64) {
	if !IsColouring(x) {
		return nil, ErrInvalid
	}
	if !isBelow(c, x.Colours) {
		return nil, ErrRange
	}
	degrees := make([]int64, x.Points)
	for number, e := range edgesOf(x.Points) {
		if int64(x.Edges[number]) == c {
			degrees[e.low]++
			degrees[e.high]++
		}
	}
	return degrees, ErrNone
}

// CountEdges returns the numbers of the edges of all colours, and ErrNone.
func CountEdges(x Colouring) ([]int64, int64) {
	if !IsColouring(x) {
		return nil, ErrInvalid
	}
	counts := make([]int64, x.Colours)
	for number := range edgesOf(x.Points) {
		counts[x.Edges[number]]++
	}
	return counts, ErrNone
}

// PartOn returns the part on a set of at least one point, and ErrNone.
func PartOn(x Colouring, points []int64) (Colouring, int64) {
	if !IsColouring(x) {
		return Colouring{}, ErrInvalid
	}
	if len(points) == 0 || !isSet(points, x.Points) {
		return Colouring{}, ErrRange
	}
	return paint(int64(len(points)), x.Colours, func(low int64, high int64) int64 {
		return colourAt(x, points[low], points[high])
	}), ErrNone
}

// PutPoint returns x with a point put in with n colours, and ErrNone. Errors: ErrLimit if x has
// MaxPoints points.
func PutPoint(x Colouring, colours []int64) (Colouring, int64) {
	if !IsColouring(x) {
		return Colouring{}, ErrInvalid
	}
	if int64(len(colours)) != x.Points || !areBelow(colours, x.Colours) {
		return Colouring{}, ErrRange
	}
	if x.Points == MaxPoints {
		return Colouring{}, ErrLimit
	}
	for i, colour := range colours {
		x.Edges[edgeNumber(int64(i), x.Points)] = byte(colour)
	}
	x.Points++
	return x, ErrNone
}

// TakePoint returns the part on all points but p, and ErrNone. Errors: ErrState if x has one point.
func TakePoint(x Colouring, p int64) (Colouring, int64) {
	if !IsColouring(x) {
		return Colouring{}, ErrInvalid
	}
	if !isBelow(p, x.Points) {
		return Colouring{}, ErrRange
	}
	if x.Points == 1 {
		return Colouring{}, ErrState
	}
	var rest []int64
	for i := range x.Points {
		if i != p {
			rest = append(rest, i)
		}
	}
	return PartOn(x, rest)
}

// RenumberPoints returns x renumbered by p, and ErrNone.
func RenumberPoints(x Colouring, p []int64) (Colouring, int64) {
	if !IsColouring(x) {
		return Colouring{}, ErrInvalid
	}
	if !isOrder(p, x.Points) {
		return Colouring{}, ErrRange
	}
	y := Colouring{Points: x.Points, Colours: x.Colours}
	for number, e := range edgesOf(x.Points) {
		y.Edges[edgeNumber(p[e.low], p[e.high])] = x.Edges[number]
	}
	return y, ErrNone
}

// ExchangeColours returns x with its colours exchanged by q, and ErrNone.
func ExchangeColours(x Colouring, q []int64) (Colouring, int64) {
	if !IsColouring(x) {
		return Colouring{}, ErrInvalid
	}
	if !isOrder(q, x.Colours) {
		return Colouring{}, ErrRange
	}
	return paint(x.Points, x.Colours, func(low int64, high int64) int64 {
		return q[colourAt(x, low, high)]
	}), ErrNone
}

// JoinColours returns x with the colours c and d joined, c less than d, and ErrNone.
func JoinColours(x Colouring, c int64, d int64) (Colouring, int64) {
	if !IsColouring(x) {
		return Colouring{}, ErrInvalid
	}
	if !isSet([]int64{c, d}, x.Colours) {
		return Colouring{}, ErrRange
	}
	return paint(x.Points, x.Colours-1, func(low int64, high int64) int64 {
		colour := colourAt(x, low, high)
		switch {
		case colour == d:
			return c
		case colour > d:
			return colour - 1
		}
		return colour
	}), ErrNone
}

// CommonNeighbours returns the points that are neighbours of both of two different points in a
// colour, ascending, and ErrNone.
func CommonNeighbours(x Colouring, i int64, j int64, c int64) ([]int64, int64) {
	if !IsColouring(x) {
		return nil, ErrInvalid
	}
	if !arePointPair(i, j, x.Points) || !isBelow(c, x.Colours) {
		return nil, ErrRange
	}
	var common []int64
	for _, p := range neighboursAt(x, i, c) {
		if p != j && colourAt(x, p, j) == c {
			common = append(common, p)
		}
	}
	return common, ErrNone
}

// withDifferences returns the colouring of n points and two colours with the colour 0 where the
// difference of the points is one of a list. The list has n - m with each m, so that differences
// need no rests modulo n.
func withDifferences(n int64, differences ...int64) Colouring {
	return paint(n, 2, func(low int64, high int64) int64 {
		if slices.Contains(differences, high-low) {
			return 0
		}
		return 1
	})
}

// colourOfSixteen is the rule of the colouring with the name sixteen.
func colourOfSixteen(low int64, high int64) int64 {
	switch low ^ high {
	case 1, 8, 10, 12, 15:
		return 0
	case 2, 3, 7, 11, 13:
		return 1
	}
	return 2
}

// namesOfColourings returns the names of the colourings that have one. The colourings are the keys
// because each of them has just one name.
func namesOfColourings() map[Colouring]string {
	return map[Colouring]string{
		withDifferences(5, 1, 4):                       "pentagon",
		withDifferences(8, 1, 4, 7):                    "eight",
		withDifferences(13, 1, 5, 8, 12):               "thirteen",
		withDifferences(17, 1, 2, 4, 8, 9, 13, 15, 16): "seventeen",
		paint(16, 3, colourOfSixteen):                  "sixteen",
	}
}

// NamedColouring returns the colouring with a name, and ErrNone. Errors: ErrNotFound if there is
// none.
func NamedColouring(name string) (Colouring, int64) {
	for x, given := range namesOfColourings() {
		if given == name {
			return x, ErrNone
		}
	}
	return Colouring{}, ErrNotFound
}

// textOf returns the text of a colouring.
func textOf(x Colouring) string {
	text := strconv.AppendInt(nil, x.Points, 10)
	text = append(text, ',')
	text = strconv.AppendInt(text, x.Colours, 10)
	text = append(text, ':')
	for number, e := range edgesOf(x.Points) {
		if e.low == 0 && e.high > 1 {
			text = append(text, ',')
		}
		text = append(text, '0'+x.Edges[number])
	}
	return string(text)
}

// ColouringText returns the text of x, and ErrNone.
func ColouringText(x Colouring) (string, int64) {
	if !IsColouring(x) {
		return "", ErrInvalid
	}
	return textOf(x), ErrNone
}

// readColouring returns the colouring that a text tells in any way, or the zero value.
func readColouring(text string) Colouring {
	head, rows, _ := strings.Cut(text, ":")
	points, colours, _ := strings.Cut(head, ",")
	n, _ := strconv.ParseInt(points, 10, 64)
	k, _ := strconv.ParseInt(colours, 10, 64)
	var list []int64
	for _, digit := range []byte(strings.ReplaceAll(rows, ",", "")) {
		list = append(list, int64(digit)-'0')
	}
	x, _ := ColouringOf(n, k, list)
	return x
}

// ParseColouring returns the colouring with a text, and ErrNone. Errors: ErrSyntax if there is
// none. (No other errors are returned.)
func ParseColouring(text string) (Colouring, int64) {
	x := readColouring(text)
	// Reading overlooks signs, zeros and commas in wrong places; the text of x shows them.
	if x == (Colouring{}) || textOf(x) != text {
		return Colouring{}, ErrSyntax
	}
	return x, ErrNone
}
